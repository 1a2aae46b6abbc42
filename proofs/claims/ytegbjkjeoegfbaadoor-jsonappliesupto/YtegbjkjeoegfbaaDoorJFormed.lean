/-
  What is proved: the function Formed of bookref3, called with a tree that lies in memory, answers whether it is one, the same that package json's isTree answers of each tree in it.
  Conditions: the tree lies in memory.
-/
import Derived.Test.YtegbjkjeoegfbaaDoorJNode
import Derived.Test.YtegbjkjeoegfbaaDoorJEach
import Derived.Test.YtegbjkjeoegfbaaDoorRValueC
import Derived.OrdersHeld
import Derived.Deep.RegionHeld
namespace Go.Proofs.YtegbjkjeoegfbaaDoor
open Go.RowKit Go.Sort

/-- What is asked of each tree. -/
def nodeS (x : V) (ks : List ByteArray) (n : Nat) (s : Unit) : Bool × Unit := (nodeB x ks n, s)
/-- Is it a tree? -/
def formedB (T : JT) : Bool := (eachM nodeS T ()).1
/-- Are they all? -/
def formedsB (l : List JT) : Bool := (eachsM nodeS l ()).1
theorem formedB_node (x : V) (ks : List ByteArray) (ts : List JT) : formedB (.node x ks ts) = (nodeB x ks ts.length && formedsB ts) := by
  unfold formedB formedsB
  rw [eachM_node]
  cases h : nodeB x ks ts.length <;> simp [nodeS, h]
theorem formedB_eq (T : JT) : formedB T = (nodeB T.x T.ks T.ts.length && formedsB T.ts) := by
  unfold formedB formedsB
  rw [eachM_eq]
  cases h : nodeB T.x T.ks T.ts.length <;> simp [nodeS, h]
theorem formedsB_cons (t : JT) (r : List JT) : formedsB (t :: r) = (formedB t && formedsB r) := by
  unfold formedB formedsB
  rw [eachsM_cons]
  cases h : (eachM nodeS t ()).1 <;> simp
theorem formedsB_nil : formedsB [] = true := by unfold formedsB; rw [eachsM]

theorem okB_range (x : V) (h : okB x = true) : 0 ≤ x.k ∧ x.k ≤ 6 := by
  have hu : usedB x = true := by
    unfold okB at h
    exact (Bool.and_eq_true _ _ ▸ h).1
  unfold usedB at hu
  by_cases h0 : x.k = 0 ∨ x.k = 2 ∨ x.k = 4
  · omega
  · rw [if_neg h0] at hu
    by_cases h1 : x.k = 1
    · omega
    · rw [if_neg h1] at hu
      by_cases h3 : x.k = 3
      · omega
      · rw [if_neg h3] at hu
        by_cases h5 : x.k = 5 ∨ x.k = 6
        · omega
        · rw [if_neg h5] at hu; cases hu

theorem IsStrs.cells {w w' : World} {a : Option Addr} {n cap : Nat} {l : List ByteArray} (h : IsStrs w (.slice a n cap) l) (hb : Below w.heap.size w w') (hl : l ≠ []) :
    ∃ b off, a = some ⟨b, off, none⟩ ∧ b < w.heap.size ∧ ∀ i (h : i < l.length), w'.cell? ⟨b, off + i, none⟩ = some (.string l[i]) := by
  obtain ⟨a', cap', e, _, _, h3⟩ := h
  obtain ⟨b, off, e2, h4, h5⟩ := h3 hl
  simp only [Value.slice.injEq] at e
  refine ⟨b, off, e.1.trans e2, h4, fun i hi => ?_⟩
  rw [hb.cell (p := ⟨b, off + i, none⟩) h4]; exact h5 i hi

/-- The key that stands ahead of an index. -/
def prevK (ks : List ByteArray) (j : Nat) : List UInt8 := if j = 0 then [] else (ks[j - 1]?.getD (ByteArray.mk #[])).toList
theorem empty_lt (s : ByteArray) : (decide (([] : List UInt8) < s.toList)) = !s.toList.isEmpty := by
  cases s.toList with
  | nil => rfl
  | cons a r => simp

set_option maxRecDepth 100000 in
set_option maxHeartbeats 8000000 in
theorem formed_any {w0 : World} {v : Value} {T : JT} (h : IsT w0 v T) : ∀ (w : World), Below w0.heap.size w0 w →
    Calls Tryd.prog 8 #[v] w fun e w' => e = .returned (.bool (formedB T)) ∧ Below w.heap.size w w' := by
  induction h using IsTG.ind with
  | mk x ks ts uk a cap us hk hl hc hz hr hi ih =>
    intro w hb
    have HT : Hid (∀ i (h : i < us.length) (h' : i < ts.length), IsT w0 (tval us[i]) ts[i]) := hi
    have HI : Hid (∀ i (h : i < us.length) (h' : i < ts.length) (w : World), Below w0.heap.size w0 w → Calls Tryd.prog 8 #[tval us[i]] w fun e w' => e = .returned (.bool (formedB ts[i])) ∧ Below w.heap.size w w') := ih
    have HR : Hid (RowT w0 a us) := hr
    have HL : Hid (us.length = ts.length ∧ ts.length ≤ cap ∧ ts.length ≤ 8796093022208) := ⟨hl, hc.1, hz⟩
    have HB : Hid (Below w0.heap.size w0 w) := hb
    have HS : Hid (IsStrs w0 uk ks) := hk
    have HF : Hid (formedB (.node x ks ts) = (nodeB x ks ts.length && formedsB ts)) := formedB_node x ks ts
    have HV : Hid (nodeB x ks ts.length = (valB x && (if x.k = 5 then decide (ks.length = ts.length) && upB [] ks else if x.k = 6 then ks.isEmpty else ks.isEmpty && decide (ts.length = 0)))) := rfl
    have HA : Hid (valB x = (okB x && (decide (x.k ≠ 4) && decide (x.o = 0 ∧ x.a = 0)))) := rfl
    have HO : Hid (okB x = true → 0 ≤ x.k ∧ x.k ≤ 6) := okB_range x
    have E1 := fun W => rValue_any x W
    have E2 := fun W => rRoot_any x.o x.a W
    obtain ⟨ak, ck, rfl, hkc, hkz, hkm⟩ := hk
    have HKZ : Hid (ks.length ≤ ck ∧ ks.length ≤ 8796093022208) := ⟨hkc.1, hkz⟩
    have HEK : Hid (ks.isEmpty = decide (ks.length = 0)) := by
      show ks.isEmpty = _
      cases ks <;> rfl
    clear hkm hkc hkz hl hc hz hr hi ih hb
    generalize formedB (.node x ks ts) = res at *
    generalize nodeB x ks ts.length = nb at *
    generalize valB x = vb at *
    generalize okB x = ob at *
    have h0 := ((Below.refl w.heap.size w).alloc (Nat.le_refl _) (.cells #[.int .i64 x.k, .int .i64 x.n, .string x.t, .int .i64 x.o, .int .i64 x.a, .slice ak ks.length ck, .slice a ts.length cap] 29)).alloc (by simp) (.cells #[.int .i64 x.k, .int .i64 x.n, .string x.t, .int .i64 x.o, .int .i64 x.a] 25)
    have HB0 : Hid (Below w.heap.size w _) := h0
    have HX0 : Hid (((w.alloc (.cells #[.int .i64 x.k, .int .i64 x.n, .string x.t, .int .i64 x.o, .int .i64 x.a, .slice ak ks.length ck, .slice a ts.length cap] 29)).alloc (.cells #[.int .i64 x.k, .int .i64 x.n, .string x.t, .int .i64 x.o, .int .i64 x.a] 25)).heap[w.heap.size]? = some _) :=
      (((Below.refl _ _).alloc (Nat.le_refl _) (.cells #[.int .i64 x.k, .int .i64 x.n, .string x.t, .int .i64 x.o, .int .i64 x.a] 25)).block w.heap.size (by simp)).trans (MapKept.heap_alloc w (.cells #[.int .i64 x.k, .int .i64 x.n, .string x.t, .int .i64 x.o, .int .i64 x.a, .slice ak ks.length ck, .slice a ts.length cap] 29)).1
    have HY0 : Hid (((w.alloc (.cells #[.int .i64 x.k, .int .i64 x.n, .string x.t, .int .i64 x.o, .int .i64 x.a, .slice ak ks.length ck, .slice a ts.length cap] 29)).alloc (.cells #[.int .i64 x.k, .int .i64 x.n, .string x.t, .int .i64 x.o, .int .i64 x.a] 25)).heap[w.heap.size + 1]? = some (.cells #[.int .i64 x.k, .int .i64 x.n, .string x.t, .int .i64 x.o, .int .i64 x.a] 25)) := by
      show _ = _
      have := (MapKept.heap_alloc (w.alloc (.cells #[.int .i64 x.k, .int .i64 x.n, .string x.t, .int .i64 x.o, .int .i64 x.a, .slice ak ks.length ck, .slice a ts.length cap] 29)) (.cells #[.int .i64 x.k, .int .i64 x.n, .string x.t, .int .i64 x.o, .int .i64 x.a] 25)).1
      simpa using this
    clear h0
    obtain ⟨k, n, t, o, c⟩ := x
    unfold V.val at E1
    unfold tval at *
    dsimp only at *
    go_enter Tryd.func8, Tryd.ntmps8
    go_wp2_with fail
    go_fit (E1 _)
    rintro e w1 ⟨rfl, b1⟩
    have hz1 := b1.size
    have HB1 : Hid (Below w.heap.size w w1) := HB0.out.trans (b1.mono (by simp; omega))
    have HX1 : Hid (w1.heap[w.heap.size]? = some _) := (b1.block _ (lt_of_heap HX0.out)).trans HX0.out
    have HY1 : Hid (w1.heap[w.heap.size + 1]? = some (.cells #[.int .i64 k, .int .i64 n, .string t, .int .i64 o, .int .i64 c] 25)) := (b1.block _ (lt_of_heap HY0.out)).trans HY0.out
    have c3 : w1.cell? ⟨w.heap.size + 1, 3, none⟩ = some (.int .i64 o) := Lib.cell_of_heap HY1.out 3
    have c4 : w1.cell? ⟨w.heap.size + 1, 4, none⟩ = some (.int .i64 c) := Lib.cell_of_heap HY1.out 4
    clear b1 hz1 HB0 HX0 HY0
    go_wp2_with fail
    go_fit (E2 _)
    rintro e w2 ⟨rfl, b2⟩
    have HB2 : Hid (Below w.heap.size w w2) := HB1.out.trans (b2.mono HB1.out.size)
    have HX2 : Hid (w2.heap[w.heap.size]? = some (.cells #[.int .i64 k, .int .i64 n, .string t, .int .i64 o, .int .i64 c, .slice ak ks.length ck, .slice a ts.length cap] 29)) := (b2.block _ (lt_of_heap HX1.out)).trans HX1.out
    have d0 : w2.cell? ⟨w.heap.size + 1, 0, none⟩ = some (.int .i64 k) := Lib.cell_of_heap ((b2.block _ (lt_of_heap HY1.out)).trans HY1.out) 0
    have d5 : w2.cell? ⟨w.heap.size, 5, none⟩ = some (.slice ak ks.length ck) := Lib.cell_of_heap HX2.out 5
    have d6 : w2.cell? ⟨w.heap.size, 6, none⟩ = some (.slice a ts.length cap) := Lib.cell_of_heap HX2.out 6
    clear b2 HB1 HX1 HY1 c3 c4 E1 E2
    have HRO : Hid (decide (o = 0 ∧ c = 0) = decide (o = 0 ∧ c = 0)) := rfl
    generalize decide (o = 0 ∧ c = 0) = ro at *
    cases ob with
    | false =>
      go_wp2
      go_ret
      have hv : res = false := by rw [HF.out, HV.out, HA.out]; rfl
      exact ⟨by rw [hv]; rfl, HB2.out⟩
    | true =>
    cases ro with
    | false =>
      go_wp2
      go_ret
      have hv : res = false := by rw [HF.out, HV.out, HA.out]; simp
      exact ⟨by rw [hv]; rfl, HB2.out⟩
    | true =>
    by_cases h4 : k = 4
    · subst h4
      go_wp2
      go_ret
      have hv : res = false := by rw [HF.out, HV.out, HA.out]; simp
      exact ⟨by rw [hv]; rfl, HB2.out⟩
    have h4' : (k == 4) = false := by simpa using h4
    have HVT : Hid (vb = true) := by
      show vb = true
      rw [HA.out, decide_eq_true (show k ≠ 4 from h4)]; rfl
    have HKR : Hid (0 ≤ k ∧ k ≤ 6 ∧ k ≠ 4) := ⟨(HO.out rfl).1, (HO.out rfl).2, h4⟩
    clear HO HA h4
    by_cases h5 : k = 5
    · subst h5
      by_cases hl : ks.length = ts.length
      · have HNB : Hid (nb = upB [] ks) := by
          show nb = _
          rw [HV.out, HVT.out]; simp [hl]
        have q1 : ((ks.length : Int) != (ts.length : Int)) = false := by simp [hl]
        clear hl
        go_wp2_with fail
        go_loopw [6] (fun i wr => ∃ j : Nat, j ≤ ks.length ∧ i = .int .i64 j ∧ Hid (upB [] ks = upB (prevK ks j) (ks.drop j)) ∧ Hid (wr.heap[w.heap.size]? = some (.cells #[.int .i64 5, .int .i64 n, .string t, .int .i64 o, .int .i64 c, .slice ak ks.length ck, .slice a ts.length cap] 29)) ∧ Hid (Below w.heap.size w wr)) (fun i _ => ks.length - (RowKit.intOf i).toNat)
        case atStart => exact ⟨0, Nat.zero_le _, rfl, rfl, HX2, HB2⟩
        case round =>
          obtain ⟨j, hj, rfl, HU, HX3, HB3⟩ := hrel
          have d5 : wr.cell? ⟨w.heap.size, 5, none⟩ = some (.slice ak ks.length ck) := Lib.cell_of_heap HX3.out 5
          by_cases hlt : j < ks.length
          · have hbw := HB.out.trans (HB3.out.mono HB.out.size)
            obtain ⟨b, off, rfl, hb4, hmem⟩ := HS.out.cells hbw (show ks ≠ [] from fun e => by rw [e] at hlt; simp at hlt)
            have x0 := hmem j hlt
            have g1 : (j : Int) < ks.length := by omega
            have g3 : (j : Int) < 8796093022208 := by have := HKZ.out; omega
            have HD : Hid (ks.drop j = ks[j] :: ks.drop (j + 1)) := List.drop_eq_getElem_cons hlt
            have HJ : Hid (j < ks.length) := hlt
            have HP : Hid (prevK ks (j + 1) = ks[j].toList) := by
              show prevK ks (j + 1) = _
              unfold prevK
              rw [if_neg (by omega), Nat.add_sub_cancel, List.getElem?_eq_getElem hlt]; rfl
            generalize hsj : ks[j] = s at *
            cases hse : s.toList.isEmpty with
            | true =>
              have hv : Hid (res = false) := by
                show res = false
                have e0 : s.toList = [] := List.isEmpty_iff.1 hse
                rw [HF.out, HNB.out, HU.out, HD.out, upB_cons, e0]; simp
              clear hlt hj hmem hsj HD HP hbw d6
              go_wp2
              refine wp_region_noPanic ?_
              refine wp_region_held_drew (S := fun W => W.cell? ⟨w.heap.size, 5, none⟩ = some (.slice (some ⟨b, off, none⟩) ks.length ck) ∧ W.cell? ⟨b, off + j, none⟩ = some (.string s)) (by kernel_rfl) (⟨d5, x0⟩) (fun hHeld => ?_)
              refine wpAnyH_take (i := 0) (oi := { dst := some 67, op := Op.fieldAddr 29 (Operand.tmp 1) 1, type := 0, pos := "json.go:32", after := #[], guard := none }) (v := ?_) rfl (by kernel_rfl) (by kernel_rfl) (by kernel_rfl) (fun _ _ _ h => h) (Or.inl ⟨by rfl, ?_⟩) (by assumption) ?_
              rotate_left
              · intro wz hSw
                try dsimp only at hSw
                go_simp
                try with_reducible rfl
              try simp only [Act.put, List.setIfInBounds_toArray, List.set_cons_zero, List.set_cons_succ]
              refine wpAnyH_take (i := 1) (oi := { dst := some 68, op := Op.load 26 (Operand.tmp 67), type := 26, pos := "json.go:32", after := #[{ on := 0, ground := Ground.data }], guard := none }) (v := ?_) rfl (by kernel_rfl) (by kernel_rfl) (by kernel_rfl) (fun _ _ _ h => h) (Or.inl ⟨by rfl, ?_⟩) (by assumption) ?_
              rotate_left
              · intro wz hSw
                try dsimp only at hSw
                go_simp
                try with_reducible rfl
              try simp only [Act.put, List.setIfInBounds_toArray, List.set_cons_zero, List.set_cons_succ]
              refine wpAnyH_take (i := 2) (oi := { dst := some 69, op := Op.move (Operand.tmp 6), type := 3, pos := "json.go:32", after := #[], guard := none }) (v := ?_) rfl (by kernel_rfl) (by kernel_rfl) (by kernel_rfl) (fun _ _ _ h => h) (Or.inl ⟨by rfl, ?_⟩) (by assumption) ?_
              rotate_left
              · intro wz hSw
                try dsimp only at hSw
                go_simp
                try with_reducible rfl
              try simp only [Act.put, List.setIfInBounds_toArray, List.set_cons_zero, List.set_cons_succ]
              refine wpAnyH_take (i := 3) (oi := { dst := some 70, op := Op.indexAddr 26 (Operand.tmp 68) (Operand.tmp 69), type := 0, pos := "json.go:32", after := #[{ on := 1, ground := Ground.data }, { on := 2, ground := Ground.data }], guard := none }) (v := ?_) rfl (by kernel_rfl) (by kernel_rfl) (by kernel_rfl) (fun _ _ _ h => h) (Or.inl ⟨by rfl, ?_⟩) (by assumption) ?_
              rotate_left
              · intro wz hSw
                try dsimp only at hSw
                go_simp
                try with_reducible rfl
              try simp only [Act.put, List.setIfInBounds_toArray, List.set_cons_zero, List.set_cons_succ]
              refine wpAnyH_take (i := 4) (oi := { dst := some 71, op := Op.load 9 (Operand.tmp 70), type := 9, pos := "json.go:32", after := #[{ on := 3, ground := Ground.data }], guard := none }) (v := ?_) rfl (by kernel_rfl) (by kernel_rfl) (by kernel_rfl) (fun _ _ _ h => h) (Or.inl ⟨by rfl, ?_⟩) (by assumption) ?_
              rotate_left
              · intro wz hSw
                try dsimp only at hSw
                go_simp
                try with_reducible rfl
              try simp only [Act.put, List.setIfInBounds_toArray, List.set_cons_zero, List.set_cons_succ]
              refine wpAnyH_take (i := 5) (oi := { dst := some 72, op := Op.binOp BinOp.eql 9 (Operand.tmp 71) (Operand.const (Value.string { data := #[] })) 9, type := 4, pos := "json.go:32", after := #[{ on := 4, ground := Ground.data }], guard := none }) (v := .bool true) rfl (by kernel_rfl) (by kernel_rfl) (by kernel_rfl) (fun _ _ _ h => h) (Or.inl ⟨by rfl, ?_⟩) (by assumption) ?_
              · intro wz hSw
                first | (go_simp; done) | (go_simp; simp [hse]; done) | (go_simp; omega) | (go_simp; simp; omega)
              try simp only [Act.put, List.setIfInBounds_toArray, List.set_cons_zero, List.set_cons_succ]
              refine wpAnyH_take (i := 6) (oi := { dst := some 73, op := Op.move (Operand.tmp 72), type := 4, pos := "json.go:32", after := #[{ on := 5, ground := Ground.data }], guard := none }) (v := ?_) rfl (by kernel_rfl) (by kernel_rfl) (by kernel_rfl) (fun _ _ _ h => h) (Or.inl ⟨by rfl, ?_⟩) (by assumption) ?_
              rotate_left
              · intro wz hSw
                try dsimp only at hSw
                go_simp
                try with_reducible rfl
              try simp only [Act.put, List.setIfInBounds_toArray, List.set_cons_zero, List.set_cons_succ]
              refine wpAnyH_take (i := 7) (oi := { dst := some 74, op := Op.fieldAddr 29 (Operand.tmp 1) 1, type := 0, pos := "json.go:32", after := #[{ on := 6, ground := Ground.guard }], guard := some (6, false) }) (v := undef) rfl (by kernel_rfl) (by kernel_rfl) (by kernel_rfl) (fun _ _ _ h => h) (Or.inr ⟨by rfl, rfl⟩) (by assumption) ?_
              try simp only [Act.put, List.setIfInBounds_toArray, List.set_cons_zero, List.set_cons_succ]
              refine wpAnyH_take (i := 8) (oi := { dst := some 75, op := Op.load 26 (Operand.tmp 74), type := 26, pos := "json.go:32", after := #[{ on := 7, ground := Ground.data }, { on := 6, ground := Ground.guard }], guard := some (6, false) }) (v := undef) rfl (by kernel_rfl) (by kernel_rfl) (by kernel_rfl) (fun _ _ _ h => h) (Or.inr ⟨by rfl, rfl⟩) (by assumption) ?_
              try simp only [Act.put, List.setIfInBounds_toArray, List.set_cons_zero, List.set_cons_succ]
              refine wpAnyH_take (i := 9) (oi := { dst := some 76, op := Op.move (Operand.tmp 6), type := 3, pos := "json.go:32", after := #[{ on := 6, ground := Ground.guard }], guard := some (6, false) }) (v := undef) rfl (by kernel_rfl) (by kernel_rfl) (by kernel_rfl) (fun _ _ _ h => h) (Or.inr ⟨by rfl, rfl⟩) (by assumption) ?_
              try simp only [Act.put, List.setIfInBounds_toArray, List.set_cons_zero, List.set_cons_succ]
              refine wpAnyH_take (i := 10) (oi := { dst := some 77, op := Op.indexAddr 26 (Operand.tmp 75) (Operand.tmp 76), type := 0, pos := "json.go:32", after := #[{ on := 8, ground := Ground.data }, { on := 9, ground := Ground.data }, { on := 6, ground := Ground.guard }], guard := some (6, false) }) (v := undef) rfl (by kernel_rfl) (by kernel_rfl) (by kernel_rfl) (fun _ _ _ h => h) (Or.inr ⟨by rfl, rfl⟩) (by assumption) ?_
              try simp only [Act.put, List.setIfInBounds_toArray, List.set_cons_zero, List.set_cons_succ]
              refine wpAnyH_take (i := 11) (oi := { dst := some 78, op := Op.load 9 (Operand.tmp 77), type := 9, pos := "json.go:32", after := #[{ on := 10, ground := Ground.data }, { on := 6, ground := Ground.guard }], guard := some (6, false) }) (v := undef) rfl (by kernel_rfl) (by kernel_rfl) (by kernel_rfl) (fun _ _ _ h => h) (Or.inr ⟨by rfl, rfl⟩) (by assumption) ?_
              try simp only [Act.put, List.setIfInBounds_toArray, List.set_cons_zero, List.set_cons_succ]
              refine wpAnyH_take (i := 12) (oi := { dst := some 79, op := Op.call { callee := Callee.builtin Builtin.len, args := #[Operand.tmp 78], argTypes := #[9] }, type := 3, pos := "json.go:32", after := #[{ on := 11, ground := Ground.data }, { on := 6, ground := Ground.guard }], guard := some (6, false) }) (v := undef) rfl (by kernel_rfl) (by kernel_rfl) (by kernel_rfl) (fun _ _ _ h => h) (Or.inr ⟨by rfl, rfl⟩) (by assumption) ?_
              try simp only [Act.put, List.setIfInBounds_toArray, List.set_cons_zero, List.set_cons_succ]
              refine wpAnyH_take (i := 13) (oi := { dst := some 80, op := Op.binOp BinOp.gtr 3 (Operand.tmp 79) (Operand.const (Value.int IntKind.i64 20)) 3, type := 4, pos := "json.go:32", after := #[{ on := 12, ground := Ground.data }, { on := 6, ground := Ground.guard }], guard := some (6, false) }) (v := undef) rfl (by kernel_rfl) (by kernel_rfl) (by kernel_rfl) (fun _ _ _ h => h) (Or.inr ⟨by rfl, rfl⟩) (by assumption) ?_
              try simp only [Act.put, List.setIfInBounds_toArray, List.set_cons_zero, List.set_cons_succ]
              refine wpAnyH_take (i := 14) (oi := { dst := some 81, op := Op.pick (Operand.tmp 73) (Operand.const (Value.bool true)) (Operand.tmp 80), type := 4, pos := "json.go:32", after := #[{ on := 6, ground := Ground.data }, { on := 13, ground := Ground.data }], guard := none }) (v := ?_) rfl (by kernel_rfl) (by kernel_rfl) (by kernel_rfl) (fun _ _ _ h => h) (Or.inl ⟨by rfl, ?_⟩) (by assumption) ?_
              rotate_left
              · intro wz hSw
                try dsimp only at hSw
                go_simp
                try with_reducible rfl
              try simp only [Act.put, List.setIfInBounds_toArray, List.set_cons_zero, List.set_cons_succ]
              refine wpAnyH_take (i := 15) (oi := { dst := some 82, op := Op.move (Operand.tmp 81), type := 4, pos := "json.go:32", after := #[{ on := 14, ground := Ground.data }, { on := 6, ground := Ground.chain }], guard := none }) (v := ?_) rfl (by kernel_rfl) (by kernel_rfl) (by kernel_rfl) (fun _ _ _ h => h) (Or.inl ⟨by rfl, ?_⟩) (by assumption) ?_
              rotate_left
              · intro wz hSw
                try dsimp only at hSw
                go_simp
                try with_reducible rfl
              try simp only [Act.put, List.setIfInBounds_toArray, List.set_cons_zero, List.set_cons_succ]
              refine wpAnyH_take (i := 16) (oi := { dst := some 83, op := Op.move (Operand.tmp 6), type := 3, pos := "json.go:32", after := #[{ on := 15, ground := Ground.guard }], guard := some (15, false) }) (v := undef) rfl (by kernel_rfl) (by kernel_rfl) (by kernel_rfl) (fun _ _ _ h => h) (Or.inr ⟨by rfl, rfl⟩) (by assumption) ?_
              try simp only [Act.put, List.setIfInBounds_toArray, List.set_cons_zero, List.set_cons_succ]
              refine wpAnyH_take (i := 17) (oi := { dst := some 84, op := Op.binOp BinOp.gtr 3 (Operand.tmp 83) (Operand.const (Value.int IntKind.i64 0)) 3, type := 4, pos := "json.go:32", after := #[{ on := 16, ground := Ground.data }, { on := 15, ground := Ground.guard }], guard := some (15, false) }) (v := undef) rfl (by kernel_rfl) (by kernel_rfl) (by kernel_rfl) (fun _ _ _ h => h) (Or.inr ⟨by rfl, rfl⟩) (by assumption) ?_
              try simp only [Act.put, List.setIfInBounds_toArray, List.set_cons_zero, List.set_cons_succ]
              refine wpAnyH_take (i := 18) (oi := { dst := some 85, op := Op.move (Operand.tmp 84), type := 4, pos := "json.go:32", after := #[{ on := 17, ground := Ground.data }, { on := 15, ground := Ground.chain }, { on := 15, ground := Ground.guard }], guard := some (15, false) }) (v := undef) rfl (by kernel_rfl) (by kernel_rfl) (by kernel_rfl) (fun _ _ _ h => h) (Or.inr ⟨by rfl, rfl⟩) (by assumption) ?_
              try simp only [Act.put, List.setIfInBounds_toArray, List.set_cons_zero, List.set_cons_succ]
              refine wpAnyH_take (i := 19) (oi := { dst := some 86, op := Op.fieldAddr 29 (Operand.tmp 1) 1, type := 0, pos := "json.go:32", after := #[{ on := 18, ground := Ground.guard }], guard := some (18, true) }) (v := undef) rfl (by kernel_rfl) (by kernel_rfl) (by kernel_rfl) (fun _ _ _ h => h) (Or.inr ⟨by rfl, rfl⟩) (by assumption) ?_
              try simp only [Act.put, List.setIfInBounds_toArray, List.set_cons_zero, List.set_cons_succ]
              refine wpAnyH_take (i := 20) (oi := { dst := some 87, op := Op.load 26 (Operand.tmp 86), type := 26, pos := "json.go:32", after := #[{ on := 19, ground := Ground.data }, { on := 18, ground := Ground.guard }], guard := some (18, true) }) (v := undef) rfl (by kernel_rfl) (by kernel_rfl) (by kernel_rfl) (fun _ _ _ h => h) (Or.inr ⟨by rfl, rfl⟩) (by assumption) ?_
              try simp only [Act.put, List.setIfInBounds_toArray, List.set_cons_zero, List.set_cons_succ]
              refine wpAnyH_take (i := 21) (oi := { dst := some 88, op := Op.move (Operand.tmp 6), type := 3, pos := "json.go:32", after := #[{ on := 18, ground := Ground.guard }], guard := some (18, true) }) (v := undef) rfl (by kernel_rfl) (by kernel_rfl) (by kernel_rfl) (fun _ _ _ h => h) (Or.inr ⟨by rfl, rfl⟩) (by assumption) ?_
              try simp only [Act.put, List.setIfInBounds_toArray, List.set_cons_zero, List.set_cons_succ]
              refine wpAnyH_take (i := 22) (oi := { dst := some 89, op := Op.binOp BinOp.sub 3 (Operand.tmp 88) (Operand.const (Value.int IntKind.i64 1)) 3, type := 3, pos := "json.go:32", after := #[{ on := 21, ground := Ground.data }, { on := 18, ground := Ground.guard }], guard := some (18, true) }) (v := undef) rfl (by kernel_rfl) (by kernel_rfl) (by kernel_rfl) (fun _ _ _ h => h) (Or.inr ⟨by rfl, rfl⟩) (by assumption) ?_
              try simp only [Act.put, List.setIfInBounds_toArray, List.set_cons_zero, List.set_cons_succ]
              refine wpAnyH_take (i := 23) (oi := { dst := some 90, op := Op.indexAddr 26 (Operand.tmp 87) (Operand.tmp 89), type := 0, pos := "json.go:32", after := #[{ on := 20, ground := Ground.data }, { on := 22, ground := Ground.data }, { on := 18, ground := Ground.guard }], guard := some (18, true) }) (v := undef) rfl (by kernel_rfl) (by kernel_rfl) (by kernel_rfl) (fun _ _ _ h => h) (Or.inr ⟨by rfl, rfl⟩) (by assumption) ?_
              try simp only [Act.put, List.setIfInBounds_toArray, List.set_cons_zero, List.set_cons_succ]
              refine wpAnyH_take (i := 24) (oi := { dst := some 91, op := Op.load 9 (Operand.tmp 90), type := 9, pos := "json.go:32", after := #[{ on := 23, ground := Ground.data }, { on := 18, ground := Ground.guard }], guard := some (18, true) }) (v := undef) rfl (by kernel_rfl) (by kernel_rfl) (by kernel_rfl) (fun _ _ _ h => h) (Or.inr ⟨by rfl, rfl⟩) (by assumption) ?_
              try simp only [Act.put, List.setIfInBounds_toArray, List.set_cons_zero, List.set_cons_succ]
              refine wpAnyH_take (i := 25) (oi := { dst := some 92, op := Op.fieldAddr 29 (Operand.tmp 1) 1, type := 0, pos := "json.go:32", after := #[{ on := 18, ground := Ground.guard }], guard := some (18, true) }) (v := undef) rfl (by kernel_rfl) (by kernel_rfl) (by kernel_rfl) (fun _ _ _ h => h) (Or.inr ⟨by rfl, rfl⟩) (by assumption) ?_
              try simp only [Act.put, List.setIfInBounds_toArray, List.set_cons_zero, List.set_cons_succ]
              refine wpAnyH_take (i := 26) (oi := { dst := some 93, op := Op.load 26 (Operand.tmp 92), type := 26, pos := "json.go:32", after := #[{ on := 25, ground := Ground.data }, { on := 18, ground := Ground.guard }], guard := some (18, true) }) (v := undef) rfl (by kernel_rfl) (by kernel_rfl) (by kernel_rfl) (fun _ _ _ h => h) (Or.inr ⟨by rfl, rfl⟩) (by assumption) ?_
              try simp only [Act.put, List.setIfInBounds_toArray, List.set_cons_zero, List.set_cons_succ]
              refine wpAnyH_take (i := 27) (oi := { dst := some 94, op := Op.move (Operand.tmp 6), type := 3, pos := "json.go:32", after := #[{ on := 18, ground := Ground.guard }], guard := some (18, true) }) (v := undef) rfl (by kernel_rfl) (by kernel_rfl) (by kernel_rfl) (fun _ _ _ h => h) (Or.inr ⟨by rfl, rfl⟩) (by assumption) ?_
              try simp only [Act.put, List.setIfInBounds_toArray, List.set_cons_zero, List.set_cons_succ]
              refine wpAnyH_take (i := 28) (oi := { dst := some 95, op := Op.indexAddr 26 (Operand.tmp 93) (Operand.tmp 94), type := 0, pos := "json.go:32", after := #[{ on := 26, ground := Ground.data }, { on := 27, ground := Ground.data }, { on := 18, ground := Ground.guard }], guard := some (18, true) }) (v := undef) rfl (by kernel_rfl) (by kernel_rfl) (by kernel_rfl) (fun _ _ _ h => h) (Or.inr ⟨by rfl, rfl⟩) (by assumption) ?_
              try simp only [Act.put, List.setIfInBounds_toArray, List.set_cons_zero, List.set_cons_succ]
              refine wpAnyH_take (i := 29) (oi := { dst := some 96, op := Op.load 9 (Operand.tmp 95), type := 9, pos := "json.go:32", after := #[{ on := 28, ground := Ground.data }, { on := 18, ground := Ground.guard }], guard := some (18, true) }) (v := undef) rfl (by kernel_rfl) (by kernel_rfl) (by kernel_rfl) (fun _ _ _ h => h) (Or.inr ⟨by rfl, rfl⟩) (by assumption) ?_
              try simp only [Act.put, List.setIfInBounds_toArray, List.set_cons_zero, List.set_cons_succ]
              refine wpAnyH_take (i := 30) (oi := { dst := some 97, op := Op.binOp BinOp.geq 9 (Operand.tmp 91) (Operand.tmp 96) 9, type := 4, pos := "json.go:32", after := #[{ on := 24, ground := Ground.data }, { on := 29, ground := Ground.data }, { on := 18, ground := Ground.guard }], guard := some (18, true) }) (v := undef) rfl (by kernel_rfl) (by kernel_rfl) (by kernel_rfl) (fun _ _ _ h => h) (Or.inr ⟨by rfl, rfl⟩) (by assumption) ?_
              try simp only [Act.put, List.setIfInBounds_toArray, List.set_cons_zero, List.set_cons_succ]
              refine wpAnyH_take (i := 31) (oi := { dst := some 98, op := Op.pick (Operand.tmp 85) (Operand.tmp 97) (Operand.const (Value.bool false)), type := 4, pos := "json.go:32", after := #[{ on := 18, ground := Ground.data }, { on := 30, ground := Ground.data }, { on := 15, ground := Ground.guard }], guard := some (15, false) }) (v := undef) rfl (by kernel_rfl) (by kernel_rfl) (by kernel_rfl) (fun _ _ _ h => h) (Or.inr ⟨by rfl, rfl⟩) (by assumption) ?_
              try simp only [Act.put, List.setIfInBounds_toArray, List.set_cons_zero, List.set_cons_succ]
              refine wpAnyH_take (i := 32) (oi := { dst := some 99, op := Op.pick (Operand.tmp 82) (Operand.const (Value.bool true)) (Operand.tmp 98), type := 4, pos := "json.go:32", after := #[{ on := 15, ground := Ground.data }, { on := 31, ground := Ground.data }], guard := none }) (v := ?_) rfl (by kernel_rfl) (by kernel_rfl) (by kernel_rfl) (fun _ _ _ h => h) (Or.inl ⟨by rfl, ?_⟩) (by assumption) ?_
              rotate_left
              · intro wz hSw
                try dsimp only at hSw
                go_simp
                try with_reducible rfl
              try simp only [Act.put, List.setIfInBounds_toArray, List.set_cons_zero, List.set_cons_succ]
              refine wpAnyH_done (by kernel_rfl) ?_ _
              refine NoPanic.normal ?_
              go_wp2
              go_ret
              exact ⟨by rw [hv.out]; rfl, HB3.out.drew⟩
            | false =>
            by_cases hsz : s.size ≤ 20
            · have g5 : ¬ (20 : Int) < s.size := by omega
              by_cases hj0 : j = 0
              · have HN : Hid (upB [] ks = upB (prevK ks (j + 1)) (ks.drop (j + 1))) := by
                  show _ = _
                  have e1 : decide (([] : List UInt8) < s.toList) = true := by rw [empty_lt, hse]; rfl
                  rw [HU.out, HD.out, upB_cons, show prevK ks j = [] by rw [hj0]; rfl, e1, decide_eq_true hsz, HP.out, Bool.true_and, Bool.true_and]
                have g9 : ¬ (0 : Int) < j := by omega
                clear hlt hj hmem hsj HD HP hbw hsz d6 hj0
                go_wp2
                refine wp_region_noPanic ?_
                refine wp_region_held_drew (S := fun W => W.cell? ⟨w.heap.size, 5, none⟩ = some (.slice (some ⟨b, off, none⟩) ks.length ck) ∧ W.cell? ⟨b, off + j, none⟩ = some (.string s)) (by kernel_rfl) (⟨d5, x0⟩) (fun hHeld => ?_)
                refine wpAnyH_take (i := 0) (oi := { dst := some 67, op := Op.fieldAddr 29 (Operand.tmp 1) 1, type := 0, pos := "json.go:32", after := #[], guard := none }) (v := ?_) rfl (by kernel_rfl) (by kernel_rfl) (by kernel_rfl) (fun _ _ _ h => h) (Or.inl ⟨by rfl, ?_⟩) (by assumption) ?_
                rotate_left
                · intro wz hSw
                  try dsimp only at hSw
                  go_simp
                  try with_reducible rfl
                try simp only [Act.put, List.setIfInBounds_toArray, List.set_cons_zero, List.set_cons_succ]
                refine wpAnyH_take (i := 1) (oi := { dst := some 68, op := Op.load 26 (Operand.tmp 67), type := 26, pos := "json.go:32", after := #[{ on := 0, ground := Ground.data }], guard := none }) (v := ?_) rfl (by kernel_rfl) (by kernel_rfl) (by kernel_rfl) (fun _ _ _ h => h) (Or.inl ⟨by rfl, ?_⟩) (by assumption) ?_
                rotate_left
                · intro wz hSw
                  try dsimp only at hSw
                  go_simp
                  try with_reducible rfl
                try simp only [Act.put, List.setIfInBounds_toArray, List.set_cons_zero, List.set_cons_succ]
                refine wpAnyH_take (i := 2) (oi := { dst := some 69, op := Op.move (Operand.tmp 6), type := 3, pos := "json.go:32", after := #[], guard := none }) (v := ?_) rfl (by kernel_rfl) (by kernel_rfl) (by kernel_rfl) (fun _ _ _ h => h) (Or.inl ⟨by rfl, ?_⟩) (by assumption) ?_
                rotate_left
                · intro wz hSw
                  try dsimp only at hSw
                  go_simp
                  try with_reducible rfl
                try simp only [Act.put, List.setIfInBounds_toArray, List.set_cons_zero, List.set_cons_succ]
                refine wpAnyH_take (i := 3) (oi := { dst := some 70, op := Op.indexAddr 26 (Operand.tmp 68) (Operand.tmp 69), type := 0, pos := "json.go:32", after := #[{ on := 1, ground := Ground.data }, { on := 2, ground := Ground.data }], guard := none }) (v := ?_) rfl (by kernel_rfl) (by kernel_rfl) (by kernel_rfl) (fun _ _ _ h => h) (Or.inl ⟨by rfl, ?_⟩) (by assumption) ?_
                rotate_left
                · intro wz hSw
                  try dsimp only at hSw
                  go_simp
                  try with_reducible rfl
                try simp only [Act.put, List.setIfInBounds_toArray, List.set_cons_zero, List.set_cons_succ]
                refine wpAnyH_take (i := 4) (oi := { dst := some 71, op := Op.load 9 (Operand.tmp 70), type := 9, pos := "json.go:32", after := #[{ on := 3, ground := Ground.data }], guard := none }) (v := ?_) rfl (by kernel_rfl) (by kernel_rfl) (by kernel_rfl) (fun _ _ _ h => h) (Or.inl ⟨by rfl, ?_⟩) (by assumption) ?_
                rotate_left
                · intro wz hSw
                  try dsimp only at hSw
                  go_simp
                  try with_reducible rfl
                try simp only [Act.put, List.setIfInBounds_toArray, List.set_cons_zero, List.set_cons_succ]
                refine wpAnyH_take (i := 5) (oi := { dst := some 72, op := Op.binOp BinOp.eql 9 (Operand.tmp 71) (Operand.const (Value.string { data := #[] })) 9, type := 4, pos := "json.go:32", after := #[{ on := 4, ground := Ground.data }], guard := none }) (v := .bool false) rfl (by kernel_rfl) (by kernel_rfl) (by kernel_rfl) (fun _ _ _ h => h) (Or.inl ⟨by rfl, ?_⟩) (by assumption) ?_
                · intro wz hSw
                  first | (go_simp; done) | (go_simp; simp [hse]; done) | (go_simp; omega) | (go_simp; simp; omega)
                try simp only [Act.put, List.setIfInBounds_toArray, List.set_cons_zero, List.set_cons_succ]
                refine wpAnyH_take (i := 6) (oi := { dst := some 73, op := Op.move (Operand.tmp 72), type := 4, pos := "json.go:32", after := #[{ on := 5, ground := Ground.data }], guard := none }) (v := ?_) rfl (by kernel_rfl) (by kernel_rfl) (by kernel_rfl) (fun _ _ _ h => h) (Or.inl ⟨by rfl, ?_⟩) (by assumption) ?_
                rotate_left
                · intro wz hSw
                  try dsimp only at hSw
                  go_simp
                  try with_reducible rfl
                try simp only [Act.put, List.setIfInBounds_toArray, List.set_cons_zero, List.set_cons_succ]
                refine wpAnyH_take (i := 7) (oi := { dst := some 74, op := Op.fieldAddr 29 (Operand.tmp 1) 1, type := 0, pos := "json.go:32", after := #[{ on := 6, ground := Ground.guard }], guard := some (6, false) }) (v := ?_) rfl (by kernel_rfl) (by kernel_rfl) (by kernel_rfl) (fun _ _ _ h => h) (Or.inl ⟨by rfl, ?_⟩) (by assumption) ?_
                rotate_left
                · intro wz hSw
                  try dsimp only at hSw
                  go_simp
                  try with_reducible rfl
                try simp only [Act.put, List.setIfInBounds_toArray, List.set_cons_zero, List.set_cons_succ]
                refine wpAnyH_take (i := 8) (oi := { dst := some 75, op := Op.load 26 (Operand.tmp 74), type := 26, pos := "json.go:32", after := #[{ on := 7, ground := Ground.data }, { on := 6, ground := Ground.guard }], guard := some (6, false) }) (v := ?_) rfl (by kernel_rfl) (by kernel_rfl) (by kernel_rfl) (fun _ _ _ h => h) (Or.inl ⟨by rfl, ?_⟩) (by assumption) ?_
                rotate_left
                · intro wz hSw
                  try dsimp only at hSw
                  go_simp
                  try with_reducible rfl
                try simp only [Act.put, List.setIfInBounds_toArray, List.set_cons_zero, List.set_cons_succ]
                refine wpAnyH_take (i := 9) (oi := { dst := some 76, op := Op.move (Operand.tmp 6), type := 3, pos := "json.go:32", after := #[{ on := 6, ground := Ground.guard }], guard := some (6, false) }) (v := ?_) rfl (by kernel_rfl) (by kernel_rfl) (by kernel_rfl) (fun _ _ _ h => h) (Or.inl ⟨by rfl, ?_⟩) (by assumption) ?_
                rotate_left
                · intro wz hSw
                  try dsimp only at hSw
                  go_simp
                  try with_reducible rfl
                try simp only [Act.put, List.setIfInBounds_toArray, List.set_cons_zero, List.set_cons_succ]
                refine wpAnyH_take (i := 10) (oi := { dst := some 77, op := Op.indexAddr 26 (Operand.tmp 75) (Operand.tmp 76), type := 0, pos := "json.go:32", after := #[{ on := 8, ground := Ground.data }, { on := 9, ground := Ground.data }, { on := 6, ground := Ground.guard }], guard := some (6, false) }) (v := ?_) rfl (by kernel_rfl) (by kernel_rfl) (by kernel_rfl) (fun _ _ _ h => h) (Or.inl ⟨by rfl, ?_⟩) (by assumption) ?_
                rotate_left
                · intro wz hSw
                  try dsimp only at hSw
                  go_simp
                  try with_reducible rfl
                try simp only [Act.put, List.setIfInBounds_toArray, List.set_cons_zero, List.set_cons_succ]
                refine wpAnyH_take (i := 11) (oi := { dst := some 78, op := Op.load 9 (Operand.tmp 77), type := 9, pos := "json.go:32", after := #[{ on := 10, ground := Ground.data }, { on := 6, ground := Ground.guard }], guard := some (6, false) }) (v := ?_) rfl (by kernel_rfl) (by kernel_rfl) (by kernel_rfl) (fun _ _ _ h => h) (Or.inl ⟨by rfl, ?_⟩) (by assumption) ?_
                rotate_left
                · intro wz hSw
                  try dsimp only at hSw
                  go_simp
                  try with_reducible rfl
                try simp only [Act.put, List.setIfInBounds_toArray, List.set_cons_zero, List.set_cons_succ]
                refine wpAnyH_take (i := 12) (oi := { dst := some 79, op := Op.call { callee := Callee.builtin Builtin.len, args := #[Operand.tmp 78], argTypes := #[9] }, type := 3, pos := "json.go:32", after := #[{ on := 11, ground := Ground.data }, { on := 6, ground := Ground.guard }], guard := some (6, false) }) (v := ?_) rfl (by kernel_rfl) (by kernel_rfl) (by kernel_rfl) (fun _ _ _ h => h) (Or.inl ⟨by rfl, ?_⟩) (by assumption) ?_
                rotate_left
                · intro wz hSw
                  try dsimp only at hSw
                  go_simp
                  try with_reducible rfl
                try simp only [Act.put, List.setIfInBounds_toArray, List.set_cons_zero, List.set_cons_succ]
                refine wpAnyH_take (i := 13) (oi := { dst := some 80, op := Op.binOp BinOp.gtr 3 (Operand.tmp 79) (Operand.const (Value.int IntKind.i64 20)) 3, type := 4, pos := "json.go:32", after := #[{ on := 12, ground := Ground.data }, { on := 6, ground := Ground.guard }], guard := some (6, false) }) (v := .bool false) rfl (by kernel_rfl) (by kernel_rfl) (by kernel_rfl) (fun _ _ _ h => h) (Or.inl ⟨by rfl, ?_⟩) (by assumption) ?_
                · intro wz hSw
                  first | (go_simp; done) | (go_simp; simp [g5]; done) | (go_simp; omega) | (go_simp; simp; omega)
                try simp only [Act.put, List.setIfInBounds_toArray, List.set_cons_zero, List.set_cons_succ]
                refine wpAnyH_take (i := 14) (oi := { dst := some 81, op := Op.pick (Operand.tmp 73) (Operand.const (Value.bool true)) (Operand.tmp 80), type := 4, pos := "json.go:32", after := #[{ on := 6, ground := Ground.data }, { on := 13, ground := Ground.data }], guard := none }) (v := ?_) rfl (by kernel_rfl) (by kernel_rfl) (by kernel_rfl) (fun _ _ _ h => h) (Or.inl ⟨by rfl, ?_⟩) (by assumption) ?_
                rotate_left
                · intro wz hSw
                  try dsimp only at hSw
                  go_simp
                  try with_reducible rfl
                try simp only [Act.put, List.setIfInBounds_toArray, List.set_cons_zero, List.set_cons_succ]
                refine wpAnyH_take (i := 15) (oi := { dst := some 82, op := Op.move (Operand.tmp 81), type := 4, pos := "json.go:32", after := #[{ on := 14, ground := Ground.data }, { on := 6, ground := Ground.chain }], guard := none }) (v := ?_) rfl (by kernel_rfl) (by kernel_rfl) (by kernel_rfl) (fun _ _ _ h => h) (Or.inl ⟨by rfl, ?_⟩) (by assumption) ?_
                rotate_left
                · intro wz hSw
                  try dsimp only at hSw
                  go_simp
                  try with_reducible rfl
                try simp only [Act.put, List.setIfInBounds_toArray, List.set_cons_zero, List.set_cons_succ]
                refine wpAnyH_take (i := 16) (oi := { dst := some 83, op := Op.move (Operand.tmp 6), type := 3, pos := "json.go:32", after := #[{ on := 15, ground := Ground.guard }], guard := some (15, false) }) (v := ?_) rfl (by kernel_rfl) (by kernel_rfl) (by kernel_rfl) (fun _ _ _ h => h) (Or.inl ⟨by rfl, ?_⟩) (by assumption) ?_
                rotate_left
                · intro wz hSw
                  try dsimp only at hSw
                  go_simp
                  try with_reducible rfl
                try simp only [Act.put, List.setIfInBounds_toArray, List.set_cons_zero, List.set_cons_succ]
                refine wpAnyH_take (i := 17) (oi := { dst := some 84, op := Op.binOp BinOp.gtr 3 (Operand.tmp 83) (Operand.const (Value.int IntKind.i64 0)) 3, type := 4, pos := "json.go:32", after := #[{ on := 16, ground := Ground.data }, { on := 15, ground := Ground.guard }], guard := some (15, false) }) (v := .bool false) rfl (by kernel_rfl) (by kernel_rfl) (by kernel_rfl) (fun _ _ _ h => h) (Or.inl ⟨by rfl, ?_⟩) (by assumption) ?_
                · intro wz hSw
                  first | (go_simp; done) | (go_simp; simp [g9]; done) | (go_simp; omega) | (go_simp; simp; omega)
                try simp only [Act.put, List.setIfInBounds_toArray, List.set_cons_zero, List.set_cons_succ]
                refine wpAnyH_take (i := 18) (oi := { dst := some 85, op := Op.move (Operand.tmp 84), type := 4, pos := "json.go:32", after := #[{ on := 17, ground := Ground.data }, { on := 15, ground := Ground.chain }, { on := 15, ground := Ground.guard }], guard := some (15, false) }) (v := ?_) rfl (by kernel_rfl) (by kernel_rfl) (by kernel_rfl) (fun _ _ _ h => h) (Or.inl ⟨by rfl, ?_⟩) (by assumption) ?_
                rotate_left
                · intro wz hSw
                  try dsimp only at hSw
                  go_simp
                  try with_reducible rfl
                try simp only [Act.put, List.setIfInBounds_toArray, List.set_cons_zero, List.set_cons_succ]
                refine wpAnyH_take (i := 19) (oi := { dst := some 86, op := Op.fieldAddr 29 (Operand.tmp 1) 1, type := 0, pos := "json.go:32", after := #[{ on := 18, ground := Ground.guard }], guard := some (18, true) }) (v := undef) rfl (by kernel_rfl) (by kernel_rfl) (by kernel_rfl) (fun _ _ _ h => h) (Or.inr ⟨by rfl, rfl⟩) (by assumption) ?_
                try simp only [Act.put, List.setIfInBounds_toArray, List.set_cons_zero, List.set_cons_succ]
                refine wpAnyH_take (i := 20) (oi := { dst := some 87, op := Op.load 26 (Operand.tmp 86), type := 26, pos := "json.go:32", after := #[{ on := 19, ground := Ground.data }, { on := 18, ground := Ground.guard }], guard := some (18, true) }) (v := undef) rfl (by kernel_rfl) (by kernel_rfl) (by kernel_rfl) (fun _ _ _ h => h) (Or.inr ⟨by rfl, rfl⟩) (by assumption) ?_
                try simp only [Act.put, List.setIfInBounds_toArray, List.set_cons_zero, List.set_cons_succ]
                refine wpAnyH_take (i := 21) (oi := { dst := some 88, op := Op.move (Operand.tmp 6), type := 3, pos := "json.go:32", after := #[{ on := 18, ground := Ground.guard }], guard := some (18, true) }) (v := undef) rfl (by kernel_rfl) (by kernel_rfl) (by kernel_rfl) (fun _ _ _ h => h) (Or.inr ⟨by rfl, rfl⟩) (by assumption) ?_
                try simp only [Act.put, List.setIfInBounds_toArray, List.set_cons_zero, List.set_cons_succ]
                refine wpAnyH_take (i := 22) (oi := { dst := some 89, op := Op.binOp BinOp.sub 3 (Operand.tmp 88) (Operand.const (Value.int IntKind.i64 1)) 3, type := 3, pos := "json.go:32", after := #[{ on := 21, ground := Ground.data }, { on := 18, ground := Ground.guard }], guard := some (18, true) }) (v := undef) rfl (by kernel_rfl) (by kernel_rfl) (by kernel_rfl) (fun _ _ _ h => h) (Or.inr ⟨by rfl, rfl⟩) (by assumption) ?_
                try simp only [Act.put, List.setIfInBounds_toArray, List.set_cons_zero, List.set_cons_succ]
                refine wpAnyH_take (i := 23) (oi := { dst := some 90, op := Op.indexAddr 26 (Operand.tmp 87) (Operand.tmp 89), type := 0, pos := "json.go:32", after := #[{ on := 20, ground := Ground.data }, { on := 22, ground := Ground.data }, { on := 18, ground := Ground.guard }], guard := some (18, true) }) (v := undef) rfl (by kernel_rfl) (by kernel_rfl) (by kernel_rfl) (fun _ _ _ h => h) (Or.inr ⟨by rfl, rfl⟩) (by assumption) ?_
                try simp only [Act.put, List.setIfInBounds_toArray, List.set_cons_zero, List.set_cons_succ]
                refine wpAnyH_take (i := 24) (oi := { dst := some 91, op := Op.load 9 (Operand.tmp 90), type := 9, pos := "json.go:32", after := #[{ on := 23, ground := Ground.data }, { on := 18, ground := Ground.guard }], guard := some (18, true) }) (v := undef) rfl (by kernel_rfl) (by kernel_rfl) (by kernel_rfl) (fun _ _ _ h => h) (Or.inr ⟨by rfl, rfl⟩) (by assumption) ?_
                try simp only [Act.put, List.setIfInBounds_toArray, List.set_cons_zero, List.set_cons_succ]
                refine wpAnyH_take (i := 25) (oi := { dst := some 92, op := Op.fieldAddr 29 (Operand.tmp 1) 1, type := 0, pos := "json.go:32", after := #[{ on := 18, ground := Ground.guard }], guard := some (18, true) }) (v := undef) rfl (by kernel_rfl) (by kernel_rfl) (by kernel_rfl) (fun _ _ _ h => h) (Or.inr ⟨by rfl, rfl⟩) (by assumption) ?_
                try simp only [Act.put, List.setIfInBounds_toArray, List.set_cons_zero, List.set_cons_succ]
                refine wpAnyH_take (i := 26) (oi := { dst := some 93, op := Op.load 26 (Operand.tmp 92), type := 26, pos := "json.go:32", after := #[{ on := 25, ground := Ground.data }, { on := 18, ground := Ground.guard }], guard := some (18, true) }) (v := undef) rfl (by kernel_rfl) (by kernel_rfl) (by kernel_rfl) (fun _ _ _ h => h) (Or.inr ⟨by rfl, rfl⟩) (by assumption) ?_
                try simp only [Act.put, List.setIfInBounds_toArray, List.set_cons_zero, List.set_cons_succ]
                refine wpAnyH_take (i := 27) (oi := { dst := some 94, op := Op.move (Operand.tmp 6), type := 3, pos := "json.go:32", after := #[{ on := 18, ground := Ground.guard }], guard := some (18, true) }) (v := undef) rfl (by kernel_rfl) (by kernel_rfl) (by kernel_rfl) (fun _ _ _ h => h) (Or.inr ⟨by rfl, rfl⟩) (by assumption) ?_
                try simp only [Act.put, List.setIfInBounds_toArray, List.set_cons_zero, List.set_cons_succ]
                refine wpAnyH_take (i := 28) (oi := { dst := some 95, op := Op.indexAddr 26 (Operand.tmp 93) (Operand.tmp 94), type := 0, pos := "json.go:32", after := #[{ on := 26, ground := Ground.data }, { on := 27, ground := Ground.data }, { on := 18, ground := Ground.guard }], guard := some (18, true) }) (v := undef) rfl (by kernel_rfl) (by kernel_rfl) (by kernel_rfl) (fun _ _ _ h => h) (Or.inr ⟨by rfl, rfl⟩) (by assumption) ?_
                try simp only [Act.put, List.setIfInBounds_toArray, List.set_cons_zero, List.set_cons_succ]
                refine wpAnyH_take (i := 29) (oi := { dst := some 96, op := Op.load 9 (Operand.tmp 95), type := 9, pos := "json.go:32", after := #[{ on := 28, ground := Ground.data }, { on := 18, ground := Ground.guard }], guard := some (18, true) }) (v := undef) rfl (by kernel_rfl) (by kernel_rfl) (by kernel_rfl) (fun _ _ _ h => h) (Or.inr ⟨by rfl, rfl⟩) (by assumption) ?_
                try simp only [Act.put, List.setIfInBounds_toArray, List.set_cons_zero, List.set_cons_succ]
                refine wpAnyH_take (i := 30) (oi := { dst := some 97, op := Op.binOp BinOp.geq 9 (Operand.tmp 91) (Operand.tmp 96) 9, type := 4, pos := "json.go:32", after := #[{ on := 24, ground := Ground.data }, { on := 29, ground := Ground.data }, { on := 18, ground := Ground.guard }], guard := some (18, true) }) (v := undef) rfl (by kernel_rfl) (by kernel_rfl) (by kernel_rfl) (fun _ _ _ h => h) (Or.inr ⟨by rfl, rfl⟩) (by assumption) ?_
                try simp only [Act.put, List.setIfInBounds_toArray, List.set_cons_zero, List.set_cons_succ]
                refine wpAnyH_take (i := 31) (oi := { dst := some 98, op := Op.pick (Operand.tmp 85) (Operand.tmp 97) (Operand.const (Value.bool false)), type := 4, pos := "json.go:32", after := #[{ on := 18, ground := Ground.data }, { on := 30, ground := Ground.data }, { on := 15, ground := Ground.guard }], guard := some (15, false) }) (v := ?_) rfl (by kernel_rfl) (by kernel_rfl) (by kernel_rfl) (fun _ _ _ h => h) (Or.inl ⟨by rfl, ?_⟩) (by assumption) ?_
                rotate_left
                · intro wz hSw
                  try dsimp only at hSw
                  go_simp
                  try with_reducible rfl
                try simp only [Act.put, List.setIfInBounds_toArray, List.set_cons_zero, List.set_cons_succ]
                refine wpAnyH_take (i := 32) (oi := { dst := some 99, op := Op.pick (Operand.tmp 82) (Operand.const (Value.bool true)) (Operand.tmp 98), type := 4, pos := "json.go:32", after := #[{ on := 15, ground := Ground.data }, { on := 31, ground := Ground.data }], guard := none }) (v := ?_) rfl (by kernel_rfl) (by kernel_rfl) (by kernel_rfl) (fun _ _ _ h => h) (Or.inl ⟨by rfl, ?_⟩) (by assumption) ?_
                rotate_left
                · intro wz hSw
                  try dsimp only at hSw
                  go_simp
                  try with_reducible rfl
                try simp only [Act.put, List.setIfInBounds_toArray, List.set_cons_zero, List.set_cons_succ]
                refine wpAnyH_done (by kernel_rfl) ?_ _
                refine NoPanic.normal ?_
                go_wp2
                go_roundw
                case rel => exact ⟨j + 1, HJ.out, by go_num, HN, HX3.out, HB3.out.drew⟩
                case measure => simp [RowKit.intOf]; have := HJ.out; omega
              · obtain ⟨i, hi⟩ : ∃ i, j = i + 1 := ⟨j - 1, by omega⟩
                have hil : i < ks.length := by omega
                have y0 := hmem i hil
                have HP0 : Hid (prevK ks j = ks[i].toList) := by
                  show prevK ks j = _
                  unfold prevK
                  rw [if_neg hj0, show j - 1 = i by omega, List.getElem?_eq_getElem hil]; rfl
                generalize ks[i] = pr at *
                have g8 : (j : Int) - 1 = i := by omega
                have g9 : (0 : Int) < j := by omega
                have g11 : IntKind.i64.wrap (i : Int) = i := IntWalk.i64_in _ (by have := HKZ.out; omega)
                have g10 : (i : Int) < ks.length := by omega
                by_cases hup : pr.toList < s.toList
                · have e1 : Op.bytesLess pr.toList s.toList = true := by rw [bytesLess_eq]; exact decide_eq_true hup
                  have HN : Hid (upB [] ks = upB (prevK ks (j + 1)) (ks.drop (j + 1))) := by
                    show _ = _
                    rw [HU.out, HD.out, upB_cons, HP0.out, decide_eq_true hup, decide_eq_true hsz, HP.out, Bool.true_and, Bool.true_and]
                  clear hlt hj hmem hsj HD HP HP0 hbw hsz d6 hup hi hil hj0
                  go_wp2
                  refine wp_region_noPanic ?_
                  refine wp_region_held_drew (S := fun W => W.cell? ⟨w.heap.size, 5, none⟩ = some (.slice (some ⟨b, off, none⟩) ks.length ck) ∧ W.cell? ⟨b, off + j, none⟩ = some (.string s) ∧ W.cell? ⟨b, off + i, none⟩ = some (.string pr)) (by kernel_rfl) (⟨d5, x0, y0⟩) (fun hHeld => ?_)
                  refine wpAnyH_take (i := 0) (oi := { dst := some 67, op := Op.fieldAddr 29 (Operand.tmp 1) 1, type := 0, pos := "json.go:32", after := #[], guard := none }) (v := ?_) rfl (by kernel_rfl) (by kernel_rfl) (by kernel_rfl) (fun _ _ _ h => h) (Or.inl ⟨by rfl, ?_⟩) (by assumption) ?_
                  rotate_left
                  · intro wz hSw
                    try dsimp only at hSw
                    go_simp
                    try with_reducible rfl
                  try simp only [Act.put, List.setIfInBounds_toArray, List.set_cons_zero, List.set_cons_succ]
                  refine wpAnyH_take (i := 1) (oi := { dst := some 68, op := Op.load 26 (Operand.tmp 67), type := 26, pos := "json.go:32", after := #[{ on := 0, ground := Ground.data }], guard := none }) (v := ?_) rfl (by kernel_rfl) (by kernel_rfl) (by kernel_rfl) (fun _ _ _ h => h) (Or.inl ⟨by rfl, ?_⟩) (by assumption) ?_
                  rotate_left
                  · intro wz hSw
                    try dsimp only at hSw
                    go_simp
                    try with_reducible rfl
                  try simp only [Act.put, List.setIfInBounds_toArray, List.set_cons_zero, List.set_cons_succ]
                  refine wpAnyH_take (i := 2) (oi := { dst := some 69, op := Op.move (Operand.tmp 6), type := 3, pos := "json.go:32", after := #[], guard := none }) (v := ?_) rfl (by kernel_rfl) (by kernel_rfl) (by kernel_rfl) (fun _ _ _ h => h) (Or.inl ⟨by rfl, ?_⟩) (by assumption) ?_
                  rotate_left
                  · intro wz hSw
                    try dsimp only at hSw
                    go_simp
                    try with_reducible rfl
                  try simp only [Act.put, List.setIfInBounds_toArray, List.set_cons_zero, List.set_cons_succ]
                  refine wpAnyH_take (i := 3) (oi := { dst := some 70, op := Op.indexAddr 26 (Operand.tmp 68) (Operand.tmp 69), type := 0, pos := "json.go:32", after := #[{ on := 1, ground := Ground.data }, { on := 2, ground := Ground.data }], guard := none }) (v := ?_) rfl (by kernel_rfl) (by kernel_rfl) (by kernel_rfl) (fun _ _ _ h => h) (Or.inl ⟨by rfl, ?_⟩) (by assumption) ?_
                  rotate_left
                  · intro wz hSw
                    try dsimp only at hSw
                    go_simp
                    try with_reducible rfl
                  try simp only [Act.put, List.setIfInBounds_toArray, List.set_cons_zero, List.set_cons_succ]
                  refine wpAnyH_take (i := 4) (oi := { dst := some 71, op := Op.load 9 (Operand.tmp 70), type := 9, pos := "json.go:32", after := #[{ on := 3, ground := Ground.data }], guard := none }) (v := ?_) rfl (by kernel_rfl) (by kernel_rfl) (by kernel_rfl) (fun _ _ _ h => h) (Or.inl ⟨by rfl, ?_⟩) (by assumption) ?_
                  rotate_left
                  · intro wz hSw
                    try dsimp only at hSw
                    go_simp
                    try with_reducible rfl
                  try simp only [Act.put, List.setIfInBounds_toArray, List.set_cons_zero, List.set_cons_succ]
                  refine wpAnyH_take (i := 5) (oi := { dst := some 72, op := Op.binOp BinOp.eql 9 (Operand.tmp 71) (Operand.const (Value.string { data := #[] })) 9, type := 4, pos := "json.go:32", after := #[{ on := 4, ground := Ground.data }], guard := none }) (v := .bool false) rfl (by kernel_rfl) (by kernel_rfl) (by kernel_rfl) (fun _ _ _ h => h) (Or.inl ⟨by rfl, ?_⟩) (by assumption) ?_
                  · intro wz hSw
                    first | (go_simp; done) | (go_simp; simp [hse]; done) | (go_simp; omega) | (go_simp; simp; omega)
                  try simp only [Act.put, List.setIfInBounds_toArray, List.set_cons_zero, List.set_cons_succ]
                  refine wpAnyH_take (i := 6) (oi := { dst := some 73, op := Op.move (Operand.tmp 72), type := 4, pos := "json.go:32", after := #[{ on := 5, ground := Ground.data }], guard := none }) (v := ?_) rfl (by kernel_rfl) (by kernel_rfl) (by kernel_rfl) (fun _ _ _ h => h) (Or.inl ⟨by rfl, ?_⟩) (by assumption) ?_
                  rotate_left
                  · intro wz hSw
                    try dsimp only at hSw
                    go_simp
                    try with_reducible rfl
                  try simp only [Act.put, List.setIfInBounds_toArray, List.set_cons_zero, List.set_cons_succ]
                  refine wpAnyH_take (i := 7) (oi := { dst := some 74, op := Op.fieldAddr 29 (Operand.tmp 1) 1, type := 0, pos := "json.go:32", after := #[{ on := 6, ground := Ground.guard }], guard := some (6, false) }) (v := ?_) rfl (by kernel_rfl) (by kernel_rfl) (by kernel_rfl) (fun _ _ _ h => h) (Or.inl ⟨by rfl, ?_⟩) (by assumption) ?_
                  rotate_left
                  · intro wz hSw
                    try dsimp only at hSw
                    go_simp
                    try with_reducible rfl
                  try simp only [Act.put, List.setIfInBounds_toArray, List.set_cons_zero, List.set_cons_succ]
                  refine wpAnyH_take (i := 8) (oi := { dst := some 75, op := Op.load 26 (Operand.tmp 74), type := 26, pos := "json.go:32", after := #[{ on := 7, ground := Ground.data }, { on := 6, ground := Ground.guard }], guard := some (6, false) }) (v := ?_) rfl (by kernel_rfl) (by kernel_rfl) (by kernel_rfl) (fun _ _ _ h => h) (Or.inl ⟨by rfl, ?_⟩) (by assumption) ?_
                  rotate_left
                  · intro wz hSw
                    try dsimp only at hSw
                    go_simp
                    try with_reducible rfl
                  try simp only [Act.put, List.setIfInBounds_toArray, List.set_cons_zero, List.set_cons_succ]
                  refine wpAnyH_take (i := 9) (oi := { dst := some 76, op := Op.move (Operand.tmp 6), type := 3, pos := "json.go:32", after := #[{ on := 6, ground := Ground.guard }], guard := some (6, false) }) (v := ?_) rfl (by kernel_rfl) (by kernel_rfl) (by kernel_rfl) (fun _ _ _ h => h) (Or.inl ⟨by rfl, ?_⟩) (by assumption) ?_
                  rotate_left
                  · intro wz hSw
                    try dsimp only at hSw
                    go_simp
                    try with_reducible rfl
                  try simp only [Act.put, List.setIfInBounds_toArray, List.set_cons_zero, List.set_cons_succ]
                  refine wpAnyH_take (i := 10) (oi := { dst := some 77, op := Op.indexAddr 26 (Operand.tmp 75) (Operand.tmp 76), type := 0, pos := "json.go:32", after := #[{ on := 8, ground := Ground.data }, { on := 9, ground := Ground.data }, { on := 6, ground := Ground.guard }], guard := some (6, false) }) (v := ?_) rfl (by kernel_rfl) (by kernel_rfl) (by kernel_rfl) (fun _ _ _ h => h) (Or.inl ⟨by rfl, ?_⟩) (by assumption) ?_
                  rotate_left
                  · intro wz hSw
                    try dsimp only at hSw
                    go_simp
                    try with_reducible rfl
                  try simp only [Act.put, List.setIfInBounds_toArray, List.set_cons_zero, List.set_cons_succ]
                  refine wpAnyH_take (i := 11) (oi := { dst := some 78, op := Op.load 9 (Operand.tmp 77), type := 9, pos := "json.go:32", after := #[{ on := 10, ground := Ground.data }, { on := 6, ground := Ground.guard }], guard := some (6, false) }) (v := ?_) rfl (by kernel_rfl) (by kernel_rfl) (by kernel_rfl) (fun _ _ _ h => h) (Or.inl ⟨by rfl, ?_⟩) (by assumption) ?_
                  rotate_left
                  · intro wz hSw
                    try dsimp only at hSw
                    go_simp
                    try with_reducible rfl
                  try simp only [Act.put, List.setIfInBounds_toArray, List.set_cons_zero, List.set_cons_succ]
                  refine wpAnyH_take (i := 12) (oi := { dst := some 79, op := Op.call { callee := Callee.builtin Builtin.len, args := #[Operand.tmp 78], argTypes := #[9] }, type := 3, pos := "json.go:32", after := #[{ on := 11, ground := Ground.data }, { on := 6, ground := Ground.guard }], guard := some (6, false) }) (v := ?_) rfl (by kernel_rfl) (by kernel_rfl) (by kernel_rfl) (fun _ _ _ h => h) (Or.inl ⟨by rfl, ?_⟩) (by assumption) ?_
                  rotate_left
                  · intro wz hSw
                    try dsimp only at hSw
                    go_simp
                    try with_reducible rfl
                  try simp only [Act.put, List.setIfInBounds_toArray, List.set_cons_zero, List.set_cons_succ]
                  refine wpAnyH_take (i := 13) (oi := { dst := some 80, op := Op.binOp BinOp.gtr 3 (Operand.tmp 79) (Operand.const (Value.int IntKind.i64 20)) 3, type := 4, pos := "json.go:32", after := #[{ on := 12, ground := Ground.data }, { on := 6, ground := Ground.guard }], guard := some (6, false) }) (v := .bool false) rfl (by kernel_rfl) (by kernel_rfl) (by kernel_rfl) (fun _ _ _ h => h) (Or.inl ⟨by rfl, ?_⟩) (by assumption) ?_
                  · intro wz hSw
                    first | (go_simp; done) | (go_simp; simp [g5]; done) | (go_simp; omega) | (go_simp; simp; omega)
                  try simp only [Act.put, List.setIfInBounds_toArray, List.set_cons_zero, List.set_cons_succ]
                  refine wpAnyH_take (i := 14) (oi := { dst := some 81, op := Op.pick (Operand.tmp 73) (Operand.const (Value.bool true)) (Operand.tmp 80), type := 4, pos := "json.go:32", after := #[{ on := 6, ground := Ground.data }, { on := 13, ground := Ground.data }], guard := none }) (v := ?_) rfl (by kernel_rfl) (by kernel_rfl) (by kernel_rfl) (fun _ _ _ h => h) (Or.inl ⟨by rfl, ?_⟩) (by assumption) ?_
                  rotate_left
                  · intro wz hSw
                    try dsimp only at hSw
                    go_simp
                    try with_reducible rfl
                  try simp only [Act.put, List.setIfInBounds_toArray, List.set_cons_zero, List.set_cons_succ]
                  refine wpAnyH_take (i := 15) (oi := { dst := some 82, op := Op.move (Operand.tmp 81), type := 4, pos := "json.go:32", after := #[{ on := 14, ground := Ground.data }, { on := 6, ground := Ground.chain }], guard := none }) (v := ?_) rfl (by kernel_rfl) (by kernel_rfl) (by kernel_rfl) (fun _ _ _ h => h) (Or.inl ⟨by rfl, ?_⟩) (by assumption) ?_
                  rotate_left
                  · intro wz hSw
                    try dsimp only at hSw
                    go_simp
                    try with_reducible rfl
                  try simp only [Act.put, List.setIfInBounds_toArray, List.set_cons_zero, List.set_cons_succ]
                  refine wpAnyH_take (i := 16) (oi := { dst := some 83, op := Op.move (Operand.tmp 6), type := 3, pos := "json.go:32", after := #[{ on := 15, ground := Ground.guard }], guard := some (15, false) }) (v := ?_) rfl (by kernel_rfl) (by kernel_rfl) (by kernel_rfl) (fun _ _ _ h => h) (Or.inl ⟨by rfl, ?_⟩) (by assumption) ?_
                  rotate_left
                  · intro wz hSw
                    try dsimp only at hSw
                    go_simp
                    try with_reducible rfl
                  try simp only [Act.put, List.setIfInBounds_toArray, List.set_cons_zero, List.set_cons_succ]
                  refine wpAnyH_take (i := 17) (oi := { dst := some 84, op := Op.binOp BinOp.gtr 3 (Operand.tmp 83) (Operand.const (Value.int IntKind.i64 0)) 3, type := 4, pos := "json.go:32", after := #[{ on := 16, ground := Ground.data }, { on := 15, ground := Ground.guard }], guard := some (15, false) }) (v := .bool true) rfl (by kernel_rfl) (by kernel_rfl) (by kernel_rfl) (fun _ _ _ h => h) (Or.inl ⟨by rfl, ?_⟩) (by assumption) ?_
                  · intro wz hSw
                    first | (go_simp; done) | (go_simp; simp [g9]; done) | (go_simp; omega) | (go_simp; simp; omega)
                  try simp only [Act.put, List.setIfInBounds_toArray, List.set_cons_zero, List.set_cons_succ]
                  refine wpAnyH_take (i := 18) (oi := { dst := some 85, op := Op.move (Operand.tmp 84), type := 4, pos := "json.go:32", after := #[{ on := 17, ground := Ground.data }, { on := 15, ground := Ground.chain }, { on := 15, ground := Ground.guard }], guard := some (15, false) }) (v := ?_) rfl (by kernel_rfl) (by kernel_rfl) (by kernel_rfl) (fun _ _ _ h => h) (Or.inl ⟨by rfl, ?_⟩) (by assumption) ?_
                  rotate_left
                  · intro wz hSw
                    try dsimp only at hSw
                    go_simp
                    try with_reducible rfl
                  try simp only [Act.put, List.setIfInBounds_toArray, List.set_cons_zero, List.set_cons_succ]
                  refine wpAnyH_take (i := 19) (oi := { dst := some 86, op := Op.fieldAddr 29 (Operand.tmp 1) 1, type := 0, pos := "json.go:32", after := #[{ on := 18, ground := Ground.guard }], guard := some (18, true) }) (v := ?_) rfl (by kernel_rfl) (by kernel_rfl) (by kernel_rfl) (fun _ _ _ h => h) (Or.inl ⟨by rfl, ?_⟩) (by assumption) ?_
                  rotate_left
                  · intro wz hSw
                    try dsimp only at hSw
                    go_simp
                    try with_reducible rfl
                  try simp only [Act.put, List.setIfInBounds_toArray, List.set_cons_zero, List.set_cons_succ]
                  refine wpAnyH_take (i := 20) (oi := { dst := some 87, op := Op.load 26 (Operand.tmp 86), type := 26, pos := "json.go:32", after := #[{ on := 19, ground := Ground.data }, { on := 18, ground := Ground.guard }], guard := some (18, true) }) (v := ?_) rfl (by kernel_rfl) (by kernel_rfl) (by kernel_rfl) (fun _ _ _ h => h) (Or.inl ⟨by rfl, ?_⟩) (by assumption) ?_
                  rotate_left
                  · intro wz hSw
                    try dsimp only at hSw
                    go_simp
                    try with_reducible rfl
                  try simp only [Act.put, List.setIfInBounds_toArray, List.set_cons_zero, List.set_cons_succ]
                  refine wpAnyH_take (i := 21) (oi := { dst := some 88, op := Op.move (Operand.tmp 6), type := 3, pos := "json.go:32", after := #[{ on := 18, ground := Ground.guard }], guard := some (18, true) }) (v := ?_) rfl (by kernel_rfl) (by kernel_rfl) (by kernel_rfl) (fun _ _ _ h => h) (Or.inl ⟨by rfl, ?_⟩) (by assumption) ?_
                  rotate_left
                  · intro wz hSw
                    try dsimp only at hSw
                    go_simp
                    try with_reducible rfl
                  try simp only [Act.put, List.setIfInBounds_toArray, List.set_cons_zero, List.set_cons_succ]
                  refine wpAnyH_take (i := 22) (oi := { dst := some 89, op := Op.binOp BinOp.sub 3 (Operand.tmp 88) (Operand.const (Value.int IntKind.i64 1)) 3, type := 3, pos := "json.go:32", after := #[{ on := 21, ground := Ground.data }, { on := 18, ground := Ground.guard }], guard := some (18, true) }) (v := .int .i64 i) rfl (by kernel_rfl) (by kernel_rfl) (by kernel_rfl) (fun _ _ _ h => h) (Or.inl ⟨by rfl, ?_⟩) (by assumption) ?_
                  · intro wz hSw
                    first | (go_simp; done) | (go_simp; simp [g8, g11]; done) | (go_simp; rw [g8, g11])
                  try simp only [Act.put, List.setIfInBounds_toArray, List.set_cons_zero, List.set_cons_succ]
                  refine wpAnyH_take (i := 23) (oi := { dst := some 90, op := Op.indexAddr 26 (Operand.tmp 87) (Operand.tmp 89), type := 0, pos := "json.go:32", after := #[{ on := 20, ground := Ground.data }, { on := 22, ground := Ground.data }, { on := 18, ground := Ground.guard }], guard := some (18, true) }) (v := ?_) rfl (by kernel_rfl) (by kernel_rfl) (by kernel_rfl) (fun _ _ _ h => h) (Or.inl ⟨by rfl, ?_⟩) (by assumption) ?_
                  rotate_left
                  · intro wz hSw
                    try dsimp only at hSw
                    go_simp
                    try with_reducible rfl
                  try simp only [Act.put, List.setIfInBounds_toArray, List.set_cons_zero, List.set_cons_succ]
                  refine wpAnyH_take (i := 24) (oi := { dst := some 91, op := Op.load 9 (Operand.tmp 90), type := 9, pos := "json.go:32", after := #[{ on := 23, ground := Ground.data }, { on := 18, ground := Ground.guard }], guard := some (18, true) }) (v := ?_) rfl (by kernel_rfl) (by kernel_rfl) (by kernel_rfl) (fun _ _ _ h => h) (Or.inl ⟨by rfl, ?_⟩) (by assumption) ?_
                  rotate_left
                  · intro wz hSw
                    try dsimp only at hSw
                    go_simp
                    try with_reducible rfl
                  try simp only [Act.put, List.setIfInBounds_toArray, List.set_cons_zero, List.set_cons_succ]
                  refine wpAnyH_take (i := 25) (oi := { dst := some 92, op := Op.fieldAddr 29 (Operand.tmp 1) 1, type := 0, pos := "json.go:32", after := #[{ on := 18, ground := Ground.guard }], guard := some (18, true) }) (v := ?_) rfl (by kernel_rfl) (by kernel_rfl) (by kernel_rfl) (fun _ _ _ h => h) (Or.inl ⟨by rfl, ?_⟩) (by assumption) ?_
                  rotate_left
                  · intro wz hSw
                    try dsimp only at hSw
                    go_simp
                    try with_reducible rfl
                  try simp only [Act.put, List.setIfInBounds_toArray, List.set_cons_zero, List.set_cons_succ]
                  refine wpAnyH_take (i := 26) (oi := { dst := some 93, op := Op.load 26 (Operand.tmp 92), type := 26, pos := "json.go:32", after := #[{ on := 25, ground := Ground.data }, { on := 18, ground := Ground.guard }], guard := some (18, true) }) (v := ?_) rfl (by kernel_rfl) (by kernel_rfl) (by kernel_rfl) (fun _ _ _ h => h) (Or.inl ⟨by rfl, ?_⟩) (by assumption) ?_
                  rotate_left
                  · intro wz hSw
                    try dsimp only at hSw
                    go_simp
                    try with_reducible rfl
                  try simp only [Act.put, List.setIfInBounds_toArray, List.set_cons_zero, List.set_cons_succ]
                  refine wpAnyH_take (i := 27) (oi := { dst := some 94, op := Op.move (Operand.tmp 6), type := 3, pos := "json.go:32", after := #[{ on := 18, ground := Ground.guard }], guard := some (18, true) }) (v := ?_) rfl (by kernel_rfl) (by kernel_rfl) (by kernel_rfl) (fun _ _ _ h => h) (Or.inl ⟨by rfl, ?_⟩) (by assumption) ?_
                  rotate_left
                  · intro wz hSw
                    try dsimp only at hSw
                    go_simp
                    try with_reducible rfl
                  try simp only [Act.put, List.setIfInBounds_toArray, List.set_cons_zero, List.set_cons_succ]
                  refine wpAnyH_take (i := 28) (oi := { dst := some 95, op := Op.indexAddr 26 (Operand.tmp 93) (Operand.tmp 94), type := 0, pos := "json.go:32", after := #[{ on := 26, ground := Ground.data }, { on := 27, ground := Ground.data }, { on := 18, ground := Ground.guard }], guard := some (18, true) }) (v := ?_) rfl (by kernel_rfl) (by kernel_rfl) (by kernel_rfl) (fun _ _ _ h => h) (Or.inl ⟨by rfl, ?_⟩) (by assumption) ?_
                  rotate_left
                  · intro wz hSw
                    try dsimp only at hSw
                    go_simp
                    try with_reducible rfl
                  try simp only [Act.put, List.setIfInBounds_toArray, List.set_cons_zero, List.set_cons_succ]
                  refine wpAnyH_take (i := 29) (oi := { dst := some 96, op := Op.load 9 (Operand.tmp 95), type := 9, pos := "json.go:32", after := #[{ on := 28, ground := Ground.data }, { on := 18, ground := Ground.guard }], guard := some (18, true) }) (v := ?_) rfl (by kernel_rfl) (by kernel_rfl) (by kernel_rfl) (fun _ _ _ h => h) (Or.inl ⟨by rfl, ?_⟩) (by assumption) ?_
                  rotate_left
                  · intro wz hSw
                    try dsimp only at hSw
                    go_simp
                    try with_reducible rfl
                  try simp only [Act.put, List.setIfInBounds_toArray, List.set_cons_zero, List.set_cons_succ]
                  refine wpAnyH_take (i := 30) (oi := { dst := some 97, op := Op.binOp BinOp.geq 9 (Operand.tmp 91) (Operand.tmp 96) 9, type := 4, pos := "json.go:32", after := #[{ on := 24, ground := Ground.data }, { on := 29, ground := Ground.data }, { on := 18, ground := Ground.guard }], guard := some (18, true) }) (v := .bool false) rfl (by kernel_rfl) (by kernel_rfl) (by kernel_rfl) (fun _ _ _ h => h) (Or.inl ⟨by rfl, ?_⟩) (by assumption) ?_
                  · intro wz hSw
                    first | (go_simp; done) | (go_simp; simp [e1]; done) | (go_simp; omega) | (go_simp; simp; omega)
                  try simp only [Act.put, List.setIfInBounds_toArray, List.set_cons_zero, List.set_cons_succ]
                  refine wpAnyH_take (i := 31) (oi := { dst := some 98, op := Op.pick (Operand.tmp 85) (Operand.tmp 97) (Operand.const (Value.bool false)), type := 4, pos := "json.go:32", after := #[{ on := 18, ground := Ground.data }, { on := 30, ground := Ground.data }, { on := 15, ground := Ground.guard }], guard := some (15, false) }) (v := ?_) rfl (by kernel_rfl) (by kernel_rfl) (by kernel_rfl) (fun _ _ _ h => h) (Or.inl ⟨by rfl, ?_⟩) (by assumption) ?_
                  rotate_left
                  · intro wz hSw
                    try dsimp only at hSw
                    go_simp
                    try with_reducible rfl
                  try simp only [Act.put, List.setIfInBounds_toArray, List.set_cons_zero, List.set_cons_succ]
                  refine wpAnyH_take (i := 32) (oi := { dst := some 99, op := Op.pick (Operand.tmp 82) (Operand.const (Value.bool true)) (Operand.tmp 98), type := 4, pos := "json.go:32", after := #[{ on := 15, ground := Ground.data }, { on := 31, ground := Ground.data }], guard := none }) (v := ?_) rfl (by kernel_rfl) (by kernel_rfl) (by kernel_rfl) (fun _ _ _ h => h) (Or.inl ⟨by rfl, ?_⟩) (by assumption) ?_
                  rotate_left
                  · intro wz hSw
                    try dsimp only at hSw
                    go_simp
                    try with_reducible rfl
                  try simp only [Act.put, List.setIfInBounds_toArray, List.set_cons_zero, List.set_cons_succ]
                  refine wpAnyH_done (by kernel_rfl) ?_ _
                  refine NoPanic.normal ?_
                  go_wp2
                  go_roundw
                  case rel => exact ⟨j + 1, HJ.out, by go_num, HN, HX3.out, HB3.out.drew⟩
                  case measure => simp [RowKit.intOf]; have := HJ.out; omega
                · have e1 : Op.bytesLess pr.toList s.toList = false := by rw [bytesLess_eq]; exact decide_eq_false hup
                  have hv : Hid (res = false) := by
                    show res = false
                    rw [HF.out, HNB.out, HU.out, HD.out, upB_cons, HP0.out, decide_eq_false hup]; rfl
                  clear hlt hj hmem hsj HD HP HP0 hbw hsz d6 hup hi hil hj0
                  go_wp2
                  refine wp_region_noPanic ?_
                  refine wp_region_held_drew (S := fun W => W.cell? ⟨w.heap.size, 5, none⟩ = some (.slice (some ⟨b, off, none⟩) ks.length ck) ∧ W.cell? ⟨b, off + j, none⟩ = some (.string s) ∧ W.cell? ⟨b, off + i, none⟩ = some (.string pr)) (by kernel_rfl) (⟨d5, x0, y0⟩) (fun hHeld => ?_)
                  refine wpAnyH_take (i := 0) (oi := { dst := some 67, op := Op.fieldAddr 29 (Operand.tmp 1) 1, type := 0, pos := "json.go:32", after := #[], guard := none }) (v := ?_) rfl (by kernel_rfl) (by kernel_rfl) (by kernel_rfl) (fun _ _ _ h => h) (Or.inl ⟨by rfl, ?_⟩) (by assumption) ?_
                  rotate_left
                  · intro wz hSw
                    try dsimp only at hSw
                    go_simp
                    try with_reducible rfl
                  try simp only [Act.put, List.setIfInBounds_toArray, List.set_cons_zero, List.set_cons_succ]
                  refine wpAnyH_take (i := 1) (oi := { dst := some 68, op := Op.load 26 (Operand.tmp 67), type := 26, pos := "json.go:32", after := #[{ on := 0, ground := Ground.data }], guard := none }) (v := ?_) rfl (by kernel_rfl) (by kernel_rfl) (by kernel_rfl) (fun _ _ _ h => h) (Or.inl ⟨by rfl, ?_⟩) (by assumption) ?_
                  rotate_left
                  · intro wz hSw
                    try dsimp only at hSw
                    go_simp
                    try with_reducible rfl
                  try simp only [Act.put, List.setIfInBounds_toArray, List.set_cons_zero, List.set_cons_succ]
                  refine wpAnyH_take (i := 2) (oi := { dst := some 69, op := Op.move (Operand.tmp 6), type := 3, pos := "json.go:32", after := #[], guard := none }) (v := ?_) rfl (by kernel_rfl) (by kernel_rfl) (by kernel_rfl) (fun _ _ _ h => h) (Or.inl ⟨by rfl, ?_⟩) (by assumption) ?_
                  rotate_left
                  · intro wz hSw
                    try dsimp only at hSw
                    go_simp
                    try with_reducible rfl
                  try simp only [Act.put, List.setIfInBounds_toArray, List.set_cons_zero, List.set_cons_succ]
                  refine wpAnyH_take (i := 3) (oi := { dst := some 70, op := Op.indexAddr 26 (Operand.tmp 68) (Operand.tmp 69), type := 0, pos := "json.go:32", after := #[{ on := 1, ground := Ground.data }, { on := 2, ground := Ground.data }], guard := none }) (v := ?_) rfl (by kernel_rfl) (by kernel_rfl) (by kernel_rfl) (fun _ _ _ h => h) (Or.inl ⟨by rfl, ?_⟩) (by assumption) ?_
                  rotate_left
                  · intro wz hSw
                    try dsimp only at hSw
                    go_simp
                    try with_reducible rfl
                  try simp only [Act.put, List.setIfInBounds_toArray, List.set_cons_zero, List.set_cons_succ]
                  refine wpAnyH_take (i := 4) (oi := { dst := some 71, op := Op.load 9 (Operand.tmp 70), type := 9, pos := "json.go:32", after := #[{ on := 3, ground := Ground.data }], guard := none }) (v := ?_) rfl (by kernel_rfl) (by kernel_rfl) (by kernel_rfl) (fun _ _ _ h => h) (Or.inl ⟨by rfl, ?_⟩) (by assumption) ?_
                  rotate_left
                  · intro wz hSw
                    try dsimp only at hSw
                    go_simp
                    try with_reducible rfl
                  try simp only [Act.put, List.setIfInBounds_toArray, List.set_cons_zero, List.set_cons_succ]
                  refine wpAnyH_take (i := 5) (oi := { dst := some 72, op := Op.binOp BinOp.eql 9 (Operand.tmp 71) (Operand.const (Value.string { data := #[] })) 9, type := 4, pos := "json.go:32", after := #[{ on := 4, ground := Ground.data }], guard := none }) (v := .bool false) rfl (by kernel_rfl) (by kernel_rfl) (by kernel_rfl) (fun _ _ _ h => h) (Or.inl ⟨by rfl, ?_⟩) (by assumption) ?_
                  · intro wz hSw
                    first | (go_simp; done) | (go_simp; simp [hse]; done) | (go_simp; omega) | (go_simp; simp; omega)
                  try simp only [Act.put, List.setIfInBounds_toArray, List.set_cons_zero, List.set_cons_succ]
                  refine wpAnyH_take (i := 6) (oi := { dst := some 73, op := Op.move (Operand.tmp 72), type := 4, pos := "json.go:32", after := #[{ on := 5, ground := Ground.data }], guard := none }) (v := ?_) rfl (by kernel_rfl) (by kernel_rfl) (by kernel_rfl) (fun _ _ _ h => h) (Or.inl ⟨by rfl, ?_⟩) (by assumption) ?_
                  rotate_left
                  · intro wz hSw
                    try dsimp only at hSw
                    go_simp
                    try with_reducible rfl
                  try simp only [Act.put, List.setIfInBounds_toArray, List.set_cons_zero, List.set_cons_succ]
                  refine wpAnyH_take (i := 7) (oi := { dst := some 74, op := Op.fieldAddr 29 (Operand.tmp 1) 1, type := 0, pos := "json.go:32", after := #[{ on := 6, ground := Ground.guard }], guard := some (6, false) }) (v := ?_) rfl (by kernel_rfl) (by kernel_rfl) (by kernel_rfl) (fun _ _ _ h => h) (Or.inl ⟨by rfl, ?_⟩) (by assumption) ?_
                  rotate_left
                  · intro wz hSw
                    try dsimp only at hSw
                    go_simp
                    try with_reducible rfl
                  try simp only [Act.put, List.setIfInBounds_toArray, List.set_cons_zero, List.set_cons_succ]
                  refine wpAnyH_take (i := 8) (oi := { dst := some 75, op := Op.load 26 (Operand.tmp 74), type := 26, pos := "json.go:32", after := #[{ on := 7, ground := Ground.data }, { on := 6, ground := Ground.guard }], guard := some (6, false) }) (v := ?_) rfl (by kernel_rfl) (by kernel_rfl) (by kernel_rfl) (fun _ _ _ h => h) (Or.inl ⟨by rfl, ?_⟩) (by assumption) ?_
                  rotate_left
                  · intro wz hSw
                    try dsimp only at hSw
                    go_simp
                    try with_reducible rfl
                  try simp only [Act.put, List.setIfInBounds_toArray, List.set_cons_zero, List.set_cons_succ]
                  refine wpAnyH_take (i := 9) (oi := { dst := some 76, op := Op.move (Operand.tmp 6), type := 3, pos := "json.go:32", after := #[{ on := 6, ground := Ground.guard }], guard := some (6, false) }) (v := ?_) rfl (by kernel_rfl) (by kernel_rfl) (by kernel_rfl) (fun _ _ _ h => h) (Or.inl ⟨by rfl, ?_⟩) (by assumption) ?_
                  rotate_left
                  · intro wz hSw
                    try dsimp only at hSw
                    go_simp
                    try with_reducible rfl
                  try simp only [Act.put, List.setIfInBounds_toArray, List.set_cons_zero, List.set_cons_succ]
                  refine wpAnyH_take (i := 10) (oi := { dst := some 77, op := Op.indexAddr 26 (Operand.tmp 75) (Operand.tmp 76), type := 0, pos := "json.go:32", after := #[{ on := 8, ground := Ground.data }, { on := 9, ground := Ground.data }, { on := 6, ground := Ground.guard }], guard := some (6, false) }) (v := ?_) rfl (by kernel_rfl) (by kernel_rfl) (by kernel_rfl) (fun _ _ _ h => h) (Or.inl ⟨by rfl, ?_⟩) (by assumption) ?_
                  rotate_left
                  · intro wz hSw
                    try dsimp only at hSw
                    go_simp
                    try with_reducible rfl
                  try simp only [Act.put, List.setIfInBounds_toArray, List.set_cons_zero, List.set_cons_succ]
                  refine wpAnyH_take (i := 11) (oi := { dst := some 78, op := Op.load 9 (Operand.tmp 77), type := 9, pos := "json.go:32", after := #[{ on := 10, ground := Ground.data }, { on := 6, ground := Ground.guard }], guard := some (6, false) }) (v := ?_) rfl (by kernel_rfl) (by kernel_rfl) (by kernel_rfl) (fun _ _ _ h => h) (Or.inl ⟨by rfl, ?_⟩) (by assumption) ?_
                  rotate_left
                  · intro wz hSw
                    try dsimp only at hSw
                    go_simp
                    try with_reducible rfl
                  try simp only [Act.put, List.setIfInBounds_toArray, List.set_cons_zero, List.set_cons_succ]
                  refine wpAnyH_take (i := 12) (oi := { dst := some 79, op := Op.call { callee := Callee.builtin Builtin.len, args := #[Operand.tmp 78], argTypes := #[9] }, type := 3, pos := "json.go:32", after := #[{ on := 11, ground := Ground.data }, { on := 6, ground := Ground.guard }], guard := some (6, false) }) (v := ?_) rfl (by kernel_rfl) (by kernel_rfl) (by kernel_rfl) (fun _ _ _ h => h) (Or.inl ⟨by rfl, ?_⟩) (by assumption) ?_
                  rotate_left
                  · intro wz hSw
                    try dsimp only at hSw
                    go_simp
                    try with_reducible rfl
                  try simp only [Act.put, List.setIfInBounds_toArray, List.set_cons_zero, List.set_cons_succ]
                  refine wpAnyH_take (i := 13) (oi := { dst := some 80, op := Op.binOp BinOp.gtr 3 (Operand.tmp 79) (Operand.const (Value.int IntKind.i64 20)) 3, type := 4, pos := "json.go:32", after := #[{ on := 12, ground := Ground.data }, { on := 6, ground := Ground.guard }], guard := some (6, false) }) (v := .bool false) rfl (by kernel_rfl) (by kernel_rfl) (by kernel_rfl) (fun _ _ _ h => h) (Or.inl ⟨by rfl, ?_⟩) (by assumption) ?_
                  · intro wz hSw
                    first | (go_simp; done) | (go_simp; simp [g5]; done) | (go_simp; omega) | (go_simp; simp; omega)
                  try simp only [Act.put, List.setIfInBounds_toArray, List.set_cons_zero, List.set_cons_succ]
                  refine wpAnyH_take (i := 14) (oi := { dst := some 81, op := Op.pick (Operand.tmp 73) (Operand.const (Value.bool true)) (Operand.tmp 80), type := 4, pos := "json.go:32", after := #[{ on := 6, ground := Ground.data }, { on := 13, ground := Ground.data }], guard := none }) (v := ?_) rfl (by kernel_rfl) (by kernel_rfl) (by kernel_rfl) (fun _ _ _ h => h) (Or.inl ⟨by rfl, ?_⟩) (by assumption) ?_
                  rotate_left
                  · intro wz hSw
                    try dsimp only at hSw
                    go_simp
                    try with_reducible rfl
                  try simp only [Act.put, List.setIfInBounds_toArray, List.set_cons_zero, List.set_cons_succ]
                  refine wpAnyH_take (i := 15) (oi := { dst := some 82, op := Op.move (Operand.tmp 81), type := 4, pos := "json.go:32", after := #[{ on := 14, ground := Ground.data }, { on := 6, ground := Ground.chain }], guard := none }) (v := ?_) rfl (by kernel_rfl) (by kernel_rfl) (by kernel_rfl) (fun _ _ _ h => h) (Or.inl ⟨by rfl, ?_⟩) (by assumption) ?_
                  rotate_left
                  · intro wz hSw
                    try dsimp only at hSw
                    go_simp
                    try with_reducible rfl
                  try simp only [Act.put, List.setIfInBounds_toArray, List.set_cons_zero, List.set_cons_succ]
                  refine wpAnyH_take (i := 16) (oi := { dst := some 83, op := Op.move (Operand.tmp 6), type := 3, pos := "json.go:32", after := #[{ on := 15, ground := Ground.guard }], guard := some (15, false) }) (v := ?_) rfl (by kernel_rfl) (by kernel_rfl) (by kernel_rfl) (fun _ _ _ h => h) (Or.inl ⟨by rfl, ?_⟩) (by assumption) ?_
                  rotate_left
                  · intro wz hSw
                    try dsimp only at hSw
                    go_simp
                    try with_reducible rfl
                  try simp only [Act.put, List.setIfInBounds_toArray, List.set_cons_zero, List.set_cons_succ]
                  refine wpAnyH_take (i := 17) (oi := { dst := some 84, op := Op.binOp BinOp.gtr 3 (Operand.tmp 83) (Operand.const (Value.int IntKind.i64 0)) 3, type := 4, pos := "json.go:32", after := #[{ on := 16, ground := Ground.data }, { on := 15, ground := Ground.guard }], guard := some (15, false) }) (v := .bool true) rfl (by kernel_rfl) (by kernel_rfl) (by kernel_rfl) (fun _ _ _ h => h) (Or.inl ⟨by rfl, ?_⟩) (by assumption) ?_
                  · intro wz hSw
                    first | (go_simp; done) | (go_simp; simp [g9]; done) | (go_simp; omega) | (go_simp; simp; omega)
                  try simp only [Act.put, List.setIfInBounds_toArray, List.set_cons_zero, List.set_cons_succ]
                  refine wpAnyH_take (i := 18) (oi := { dst := some 85, op := Op.move (Operand.tmp 84), type := 4, pos := "json.go:32", after := #[{ on := 17, ground := Ground.data }, { on := 15, ground := Ground.chain }, { on := 15, ground := Ground.guard }], guard := some (15, false) }) (v := ?_) rfl (by kernel_rfl) (by kernel_rfl) (by kernel_rfl) (fun _ _ _ h => h) (Or.inl ⟨by rfl, ?_⟩) (by assumption) ?_
                  rotate_left
                  · intro wz hSw
                    try dsimp only at hSw
                    go_simp
                    try with_reducible rfl
                  try simp only [Act.put, List.setIfInBounds_toArray, List.set_cons_zero, List.set_cons_succ]
                  refine wpAnyH_take (i := 19) (oi := { dst := some 86, op := Op.fieldAddr 29 (Operand.tmp 1) 1, type := 0, pos := "json.go:32", after := #[{ on := 18, ground := Ground.guard }], guard := some (18, true) }) (v := ?_) rfl (by kernel_rfl) (by kernel_rfl) (by kernel_rfl) (fun _ _ _ h => h) (Or.inl ⟨by rfl, ?_⟩) (by assumption) ?_
                  rotate_left
                  · intro wz hSw
                    try dsimp only at hSw
                    go_simp
                    try with_reducible rfl
                  try simp only [Act.put, List.setIfInBounds_toArray, List.set_cons_zero, List.set_cons_succ]
                  refine wpAnyH_take (i := 20) (oi := { dst := some 87, op := Op.load 26 (Operand.tmp 86), type := 26, pos := "json.go:32", after := #[{ on := 19, ground := Ground.data }, { on := 18, ground := Ground.guard }], guard := some (18, true) }) (v := ?_) rfl (by kernel_rfl) (by kernel_rfl) (by kernel_rfl) (fun _ _ _ h => h) (Or.inl ⟨by rfl, ?_⟩) (by assumption) ?_
                  rotate_left
                  · intro wz hSw
                    try dsimp only at hSw
                    go_simp
                    try with_reducible rfl
                  try simp only [Act.put, List.setIfInBounds_toArray, List.set_cons_zero, List.set_cons_succ]
                  refine wpAnyH_take (i := 21) (oi := { dst := some 88, op := Op.move (Operand.tmp 6), type := 3, pos := "json.go:32", after := #[{ on := 18, ground := Ground.guard }], guard := some (18, true) }) (v := ?_) rfl (by kernel_rfl) (by kernel_rfl) (by kernel_rfl) (fun _ _ _ h => h) (Or.inl ⟨by rfl, ?_⟩) (by assumption) ?_
                  rotate_left
                  · intro wz hSw
                    try dsimp only at hSw
                    go_simp
                    try with_reducible rfl
                  try simp only [Act.put, List.setIfInBounds_toArray, List.set_cons_zero, List.set_cons_succ]
                  refine wpAnyH_take (i := 22) (oi := { dst := some 89, op := Op.binOp BinOp.sub 3 (Operand.tmp 88) (Operand.const (Value.int IntKind.i64 1)) 3, type := 3, pos := "json.go:32", after := #[{ on := 21, ground := Ground.data }, { on := 18, ground := Ground.guard }], guard := some (18, true) }) (v := .int .i64 i) rfl (by kernel_rfl) (by kernel_rfl) (by kernel_rfl) (fun _ _ _ h => h) (Or.inl ⟨by rfl, ?_⟩) (by assumption) ?_
                  · intro wz hSw
                    first | (go_simp; done) | (go_simp; simp [g8, g11]; done) | (go_simp; rw [g8, g11])
                  try simp only [Act.put, List.setIfInBounds_toArray, List.set_cons_zero, List.set_cons_succ]
                  refine wpAnyH_take (i := 23) (oi := { dst := some 90, op := Op.indexAddr 26 (Operand.tmp 87) (Operand.tmp 89), type := 0, pos := "json.go:32", after := #[{ on := 20, ground := Ground.data }, { on := 22, ground := Ground.data }, { on := 18, ground := Ground.guard }], guard := some (18, true) }) (v := ?_) rfl (by kernel_rfl) (by kernel_rfl) (by kernel_rfl) (fun _ _ _ h => h) (Or.inl ⟨by rfl, ?_⟩) (by assumption) ?_
                  rotate_left
                  · intro wz hSw
                    try dsimp only at hSw
                    go_simp
                    try with_reducible rfl
                  try simp only [Act.put, List.setIfInBounds_toArray, List.set_cons_zero, List.set_cons_succ]
                  refine wpAnyH_take (i := 24) (oi := { dst := some 91, op := Op.load 9 (Operand.tmp 90), type := 9, pos := "json.go:32", after := #[{ on := 23, ground := Ground.data }, { on := 18, ground := Ground.guard }], guard := some (18, true) }) (v := ?_) rfl (by kernel_rfl) (by kernel_rfl) (by kernel_rfl) (fun _ _ _ h => h) (Or.inl ⟨by rfl, ?_⟩) (by assumption) ?_
                  rotate_left
                  · intro wz hSw
                    try dsimp only at hSw
                    go_simp
                    try with_reducible rfl
                  try simp only [Act.put, List.setIfInBounds_toArray, List.set_cons_zero, List.set_cons_succ]
                  refine wpAnyH_take (i := 25) (oi := { dst := some 92, op := Op.fieldAddr 29 (Operand.tmp 1) 1, type := 0, pos := "json.go:32", after := #[{ on := 18, ground := Ground.guard }], guard := some (18, true) }) (v := ?_) rfl (by kernel_rfl) (by kernel_rfl) (by kernel_rfl) (fun _ _ _ h => h) (Or.inl ⟨by rfl, ?_⟩) (by assumption) ?_
                  rotate_left
                  · intro wz hSw
                    try dsimp only at hSw
                    go_simp
                    try with_reducible rfl
                  try simp only [Act.put, List.setIfInBounds_toArray, List.set_cons_zero, List.set_cons_succ]
                  refine wpAnyH_take (i := 26) (oi := { dst := some 93, op := Op.load 26 (Operand.tmp 92), type := 26, pos := "json.go:32", after := #[{ on := 25, ground := Ground.data }, { on := 18, ground := Ground.guard }], guard := some (18, true) }) (v := ?_) rfl (by kernel_rfl) (by kernel_rfl) (by kernel_rfl) (fun _ _ _ h => h) (Or.inl ⟨by rfl, ?_⟩) (by assumption) ?_
                  rotate_left
                  · intro wz hSw
                    try dsimp only at hSw
                    go_simp
                    try with_reducible rfl
                  try simp only [Act.put, List.setIfInBounds_toArray, List.set_cons_zero, List.set_cons_succ]
                  refine wpAnyH_take (i := 27) (oi := { dst := some 94, op := Op.move (Operand.tmp 6), type := 3, pos := "json.go:32", after := #[{ on := 18, ground := Ground.guard }], guard := some (18, true) }) (v := ?_) rfl (by kernel_rfl) (by kernel_rfl) (by kernel_rfl) (fun _ _ _ h => h) (Or.inl ⟨by rfl, ?_⟩) (by assumption) ?_
                  rotate_left
                  · intro wz hSw
                    try dsimp only at hSw
                    go_simp
                    try with_reducible rfl
                  try simp only [Act.put, List.setIfInBounds_toArray, List.set_cons_zero, List.set_cons_succ]
                  refine wpAnyH_take (i := 28) (oi := { dst := some 95, op := Op.indexAddr 26 (Operand.tmp 93) (Operand.tmp 94), type := 0, pos := "json.go:32", after := #[{ on := 26, ground := Ground.data }, { on := 27, ground := Ground.data }, { on := 18, ground := Ground.guard }], guard := some (18, true) }) (v := ?_) rfl (by kernel_rfl) (by kernel_rfl) (by kernel_rfl) (fun _ _ _ h => h) (Or.inl ⟨by rfl, ?_⟩) (by assumption) ?_
                  rotate_left
                  · intro wz hSw
                    try dsimp only at hSw
                    go_simp
                    try with_reducible rfl
                  try simp only [Act.put, List.setIfInBounds_toArray, List.set_cons_zero, List.set_cons_succ]
                  refine wpAnyH_take (i := 29) (oi := { dst := some 96, op := Op.load 9 (Operand.tmp 95), type := 9, pos := "json.go:32", after := #[{ on := 28, ground := Ground.data }, { on := 18, ground := Ground.guard }], guard := some (18, true) }) (v := ?_) rfl (by kernel_rfl) (by kernel_rfl) (by kernel_rfl) (fun _ _ _ h => h) (Or.inl ⟨by rfl, ?_⟩) (by assumption) ?_
                  rotate_left
                  · intro wz hSw
                    try dsimp only at hSw
                    go_simp
                    try with_reducible rfl
                  try simp only [Act.put, List.setIfInBounds_toArray, List.set_cons_zero, List.set_cons_succ]
                  refine wpAnyH_take (i := 30) (oi := { dst := some 97, op := Op.binOp BinOp.geq 9 (Operand.tmp 91) (Operand.tmp 96) 9, type := 4, pos := "json.go:32", after := #[{ on := 24, ground := Ground.data }, { on := 29, ground := Ground.data }, { on := 18, ground := Ground.guard }], guard := some (18, true) }) (v := .bool true) rfl (by kernel_rfl) (by kernel_rfl) (by kernel_rfl) (fun _ _ _ h => h) (Or.inl ⟨by rfl, ?_⟩) (by assumption) ?_
                  · intro wz hSw
                    first | (go_simp; done) | (go_simp; simp [e1]; done) | (go_simp; omega) | (go_simp; simp; omega)
                  try simp only [Act.put, List.setIfInBounds_toArray, List.set_cons_zero, List.set_cons_succ]
                  refine wpAnyH_take (i := 31) (oi := { dst := some 98, op := Op.pick (Operand.tmp 85) (Operand.tmp 97) (Operand.const (Value.bool false)), type := 4, pos := "json.go:32", after := #[{ on := 18, ground := Ground.data }, { on := 30, ground := Ground.data }, { on := 15, ground := Ground.guard }], guard := some (15, false) }) (v := ?_) rfl (by kernel_rfl) (by kernel_rfl) (by kernel_rfl) (fun _ _ _ h => h) (Or.inl ⟨by rfl, ?_⟩) (by assumption) ?_
                  rotate_left
                  · intro wz hSw
                    try dsimp only at hSw
                    go_simp
                    try with_reducible rfl
                  try simp only [Act.put, List.setIfInBounds_toArray, List.set_cons_zero, List.set_cons_succ]
                  refine wpAnyH_take (i := 32) (oi := { dst := some 99, op := Op.pick (Operand.tmp 82) (Operand.const (Value.bool true)) (Operand.tmp 98), type := 4, pos := "json.go:32", after := #[{ on := 15, ground := Ground.data }, { on := 31, ground := Ground.data }], guard := none }) (v := ?_) rfl (by kernel_rfl) (by kernel_rfl) (by kernel_rfl) (fun _ _ _ h => h) (Or.inl ⟨by rfl, ?_⟩) (by assumption) ?_
                  rotate_left
                  · intro wz hSw
                    try dsimp only at hSw
                    go_simp
                    try with_reducible rfl
                  try simp only [Act.put, List.setIfInBounds_toArray, List.set_cons_zero, List.set_cons_succ]
                  refine wpAnyH_done (by kernel_rfl) ?_ _
                  refine NoPanic.normal ?_
                  go_wp2
                  go_ret
                  exact ⟨by rw [hv.out]; rfl, HB3.out.drew⟩
            · have g5 : (20 : Int) < s.size := by omega
              have hv : Hid (res = false) := by
                show res = false
                rw [HF.out, HNB.out, HU.out, HD.out, upB_cons, decide_eq_false hsz]; simp
              clear hlt hj hmem hsj HD HP hbw hsz d6
              go_wp2
              refine wp_region_noPanic ?_
              refine wp_region_held_drew (S := fun W => W.cell? ⟨w.heap.size, 5, none⟩ = some (.slice (some ⟨b, off, none⟩) ks.length ck) ∧ W.cell? ⟨b, off + j, none⟩ = some (.string s)) (by kernel_rfl) (⟨d5, x0⟩) (fun hHeld => ?_)
              refine wpAnyH_take (i := 0) (oi := { dst := some 67, op := Op.fieldAddr 29 (Operand.tmp 1) 1, type := 0, pos := "json.go:32", after := #[], guard := none }) (v := ?_) rfl (by kernel_rfl) (by kernel_rfl) (by kernel_rfl) (fun _ _ _ h => h) (Or.inl ⟨by rfl, ?_⟩) (by assumption) ?_
              rotate_left
              · intro wz hSw
                try dsimp only at hSw
                go_simp
                try with_reducible rfl
              try simp only [Act.put, List.setIfInBounds_toArray, List.set_cons_zero, List.set_cons_succ]
              refine wpAnyH_take (i := 1) (oi := { dst := some 68, op := Op.load 26 (Operand.tmp 67), type := 26, pos := "json.go:32", after := #[{ on := 0, ground := Ground.data }], guard := none }) (v := ?_) rfl (by kernel_rfl) (by kernel_rfl) (by kernel_rfl) (fun _ _ _ h => h) (Or.inl ⟨by rfl, ?_⟩) (by assumption) ?_
              rotate_left
              · intro wz hSw
                try dsimp only at hSw
                go_simp
                try with_reducible rfl
              try simp only [Act.put, List.setIfInBounds_toArray, List.set_cons_zero, List.set_cons_succ]
              refine wpAnyH_take (i := 2) (oi := { dst := some 69, op := Op.move (Operand.tmp 6), type := 3, pos := "json.go:32", after := #[], guard := none }) (v := ?_) rfl (by kernel_rfl) (by kernel_rfl) (by kernel_rfl) (fun _ _ _ h => h) (Or.inl ⟨by rfl, ?_⟩) (by assumption) ?_
              rotate_left
              · intro wz hSw
                try dsimp only at hSw
                go_simp
                try with_reducible rfl
              try simp only [Act.put, List.setIfInBounds_toArray, List.set_cons_zero, List.set_cons_succ]
              refine wpAnyH_take (i := 3) (oi := { dst := some 70, op := Op.indexAddr 26 (Operand.tmp 68) (Operand.tmp 69), type := 0, pos := "json.go:32", after := #[{ on := 1, ground := Ground.data }, { on := 2, ground := Ground.data }], guard := none }) (v := ?_) rfl (by kernel_rfl) (by kernel_rfl) (by kernel_rfl) (fun _ _ _ h => h) (Or.inl ⟨by rfl, ?_⟩) (by assumption) ?_
              rotate_left
              · intro wz hSw
                try dsimp only at hSw
                go_simp
                try with_reducible rfl
              try simp only [Act.put, List.setIfInBounds_toArray, List.set_cons_zero, List.set_cons_succ]
              refine wpAnyH_take (i := 4) (oi := { dst := some 71, op := Op.load 9 (Operand.tmp 70), type := 9, pos := "json.go:32", after := #[{ on := 3, ground := Ground.data }], guard := none }) (v := ?_) rfl (by kernel_rfl) (by kernel_rfl) (by kernel_rfl) (fun _ _ _ h => h) (Or.inl ⟨by rfl, ?_⟩) (by assumption) ?_
              rotate_left
              · intro wz hSw
                try dsimp only at hSw
                go_simp
                try with_reducible rfl
              try simp only [Act.put, List.setIfInBounds_toArray, List.set_cons_zero, List.set_cons_succ]
              refine wpAnyH_take (i := 5) (oi := { dst := some 72, op := Op.binOp BinOp.eql 9 (Operand.tmp 71) (Operand.const (Value.string { data := #[] })) 9, type := 4, pos := "json.go:32", after := #[{ on := 4, ground := Ground.data }], guard := none }) (v := .bool false) rfl (by kernel_rfl) (by kernel_rfl) (by kernel_rfl) (fun _ _ _ h => h) (Or.inl ⟨by rfl, ?_⟩) (by assumption) ?_
              · intro wz hSw
                first | (go_simp; done) | (go_simp; simp [hse]; done) | (go_simp; omega) | (go_simp; simp; omega)
              try simp only [Act.put, List.setIfInBounds_toArray, List.set_cons_zero, List.set_cons_succ]
              refine wpAnyH_take (i := 6) (oi := { dst := some 73, op := Op.move (Operand.tmp 72), type := 4, pos := "json.go:32", after := #[{ on := 5, ground := Ground.data }], guard := none }) (v := ?_) rfl (by kernel_rfl) (by kernel_rfl) (by kernel_rfl) (fun _ _ _ h => h) (Or.inl ⟨by rfl, ?_⟩) (by assumption) ?_
              rotate_left
              · intro wz hSw
                try dsimp only at hSw
                go_simp
                try with_reducible rfl
              try simp only [Act.put, List.setIfInBounds_toArray, List.set_cons_zero, List.set_cons_succ]
              refine wpAnyH_take (i := 7) (oi := { dst := some 74, op := Op.fieldAddr 29 (Operand.tmp 1) 1, type := 0, pos := "json.go:32", after := #[{ on := 6, ground := Ground.guard }], guard := some (6, false) }) (v := ?_) rfl (by kernel_rfl) (by kernel_rfl) (by kernel_rfl) (fun _ _ _ h => h) (Or.inl ⟨by rfl, ?_⟩) (by assumption) ?_
              rotate_left
              · intro wz hSw
                try dsimp only at hSw
                go_simp
                try with_reducible rfl
              try simp only [Act.put, List.setIfInBounds_toArray, List.set_cons_zero, List.set_cons_succ]
              refine wpAnyH_take (i := 8) (oi := { dst := some 75, op := Op.load 26 (Operand.tmp 74), type := 26, pos := "json.go:32", after := #[{ on := 7, ground := Ground.data }, { on := 6, ground := Ground.guard }], guard := some (6, false) }) (v := ?_) rfl (by kernel_rfl) (by kernel_rfl) (by kernel_rfl) (fun _ _ _ h => h) (Or.inl ⟨by rfl, ?_⟩) (by assumption) ?_
              rotate_left
              · intro wz hSw
                try dsimp only at hSw
                go_simp
                try with_reducible rfl
              try simp only [Act.put, List.setIfInBounds_toArray, List.set_cons_zero, List.set_cons_succ]
              refine wpAnyH_take (i := 9) (oi := { dst := some 76, op := Op.move (Operand.tmp 6), type := 3, pos := "json.go:32", after := #[{ on := 6, ground := Ground.guard }], guard := some (6, false) }) (v := ?_) rfl (by kernel_rfl) (by kernel_rfl) (by kernel_rfl) (fun _ _ _ h => h) (Or.inl ⟨by rfl, ?_⟩) (by assumption) ?_
              rotate_left
              · intro wz hSw
                try dsimp only at hSw
                go_simp
                try with_reducible rfl
              try simp only [Act.put, List.setIfInBounds_toArray, List.set_cons_zero, List.set_cons_succ]
              refine wpAnyH_take (i := 10) (oi := { dst := some 77, op := Op.indexAddr 26 (Operand.tmp 75) (Operand.tmp 76), type := 0, pos := "json.go:32", after := #[{ on := 8, ground := Ground.data }, { on := 9, ground := Ground.data }, { on := 6, ground := Ground.guard }], guard := some (6, false) }) (v := ?_) rfl (by kernel_rfl) (by kernel_rfl) (by kernel_rfl) (fun _ _ _ h => h) (Or.inl ⟨by rfl, ?_⟩) (by assumption) ?_
              rotate_left
              · intro wz hSw
                try dsimp only at hSw
                go_simp
                try with_reducible rfl
              try simp only [Act.put, List.setIfInBounds_toArray, List.set_cons_zero, List.set_cons_succ]
              refine wpAnyH_take (i := 11) (oi := { dst := some 78, op := Op.load 9 (Operand.tmp 77), type := 9, pos := "json.go:32", after := #[{ on := 10, ground := Ground.data }, { on := 6, ground := Ground.guard }], guard := some (6, false) }) (v := ?_) rfl (by kernel_rfl) (by kernel_rfl) (by kernel_rfl) (fun _ _ _ h => h) (Or.inl ⟨by rfl, ?_⟩) (by assumption) ?_
              rotate_left
              · intro wz hSw
                try dsimp only at hSw
                go_simp
                try with_reducible rfl
              try simp only [Act.put, List.setIfInBounds_toArray, List.set_cons_zero, List.set_cons_succ]
              refine wpAnyH_take (i := 12) (oi := { dst := some 79, op := Op.call { callee := Callee.builtin Builtin.len, args := #[Operand.tmp 78], argTypes := #[9] }, type := 3, pos := "json.go:32", after := #[{ on := 11, ground := Ground.data }, { on := 6, ground := Ground.guard }], guard := some (6, false) }) (v := ?_) rfl (by kernel_rfl) (by kernel_rfl) (by kernel_rfl) (fun _ _ _ h => h) (Or.inl ⟨by rfl, ?_⟩) (by assumption) ?_
              rotate_left
              · intro wz hSw
                try dsimp only at hSw
                go_simp
                try with_reducible rfl
              try simp only [Act.put, List.setIfInBounds_toArray, List.set_cons_zero, List.set_cons_succ]
              refine wpAnyH_take (i := 13) (oi := { dst := some 80, op := Op.binOp BinOp.gtr 3 (Operand.tmp 79) (Operand.const (Value.int IntKind.i64 20)) 3, type := 4, pos := "json.go:32", after := #[{ on := 12, ground := Ground.data }, { on := 6, ground := Ground.guard }], guard := some (6, false) }) (v := .bool true) rfl (by kernel_rfl) (by kernel_rfl) (by kernel_rfl) (fun _ _ _ h => h) (Or.inl ⟨by rfl, ?_⟩) (by assumption) ?_
              · intro wz hSw
                first | (go_simp; done) | (go_simp; simp [g5]; done) | (go_simp; omega) | (go_simp; simp; omega)
              try simp only [Act.put, List.setIfInBounds_toArray, List.set_cons_zero, List.set_cons_succ]
              refine wpAnyH_take (i := 14) (oi := { dst := some 81, op := Op.pick (Operand.tmp 73) (Operand.const (Value.bool true)) (Operand.tmp 80), type := 4, pos := "json.go:32", after := #[{ on := 6, ground := Ground.data }, { on := 13, ground := Ground.data }], guard := none }) (v := ?_) rfl (by kernel_rfl) (by kernel_rfl) (by kernel_rfl) (fun _ _ _ h => h) (Or.inl ⟨by rfl, ?_⟩) (by assumption) ?_
              rotate_left
              · intro wz hSw
                try dsimp only at hSw
                go_simp
                try with_reducible rfl
              try simp only [Act.put, List.setIfInBounds_toArray, List.set_cons_zero, List.set_cons_succ]
              refine wpAnyH_take (i := 15) (oi := { dst := some 82, op := Op.move (Operand.tmp 81), type := 4, pos := "json.go:32", after := #[{ on := 14, ground := Ground.data }, { on := 6, ground := Ground.chain }], guard := none }) (v := ?_) rfl (by kernel_rfl) (by kernel_rfl) (by kernel_rfl) (fun _ _ _ h => h) (Or.inl ⟨by rfl, ?_⟩) (by assumption) ?_
              rotate_left
              · intro wz hSw
                try dsimp only at hSw
                go_simp
                try with_reducible rfl
              try simp only [Act.put, List.setIfInBounds_toArray, List.set_cons_zero, List.set_cons_succ]
              refine wpAnyH_take (i := 16) (oi := { dst := some 83, op := Op.move (Operand.tmp 6), type := 3, pos := "json.go:32", after := #[{ on := 15, ground := Ground.guard }], guard := some (15, false) }) (v := undef) rfl (by kernel_rfl) (by kernel_rfl) (by kernel_rfl) (fun _ _ _ h => h) (Or.inr ⟨by rfl, rfl⟩) (by assumption) ?_
              try simp only [Act.put, List.setIfInBounds_toArray, List.set_cons_zero, List.set_cons_succ]
              refine wpAnyH_take (i := 17) (oi := { dst := some 84, op := Op.binOp BinOp.gtr 3 (Operand.tmp 83) (Operand.const (Value.int IntKind.i64 0)) 3, type := 4, pos := "json.go:32", after := #[{ on := 16, ground := Ground.data }, { on := 15, ground := Ground.guard }], guard := some (15, false) }) (v := undef) rfl (by kernel_rfl) (by kernel_rfl) (by kernel_rfl) (fun _ _ _ h => h) (Or.inr ⟨by rfl, rfl⟩) (by assumption) ?_
              try simp only [Act.put, List.setIfInBounds_toArray, List.set_cons_zero, List.set_cons_succ]
              refine wpAnyH_take (i := 18) (oi := { dst := some 85, op := Op.move (Operand.tmp 84), type := 4, pos := "json.go:32", after := #[{ on := 17, ground := Ground.data }, { on := 15, ground := Ground.chain }, { on := 15, ground := Ground.guard }], guard := some (15, false) }) (v := undef) rfl (by kernel_rfl) (by kernel_rfl) (by kernel_rfl) (fun _ _ _ h => h) (Or.inr ⟨by rfl, rfl⟩) (by assumption) ?_
              try simp only [Act.put, List.setIfInBounds_toArray, List.set_cons_zero, List.set_cons_succ]
              refine wpAnyH_take (i := 19) (oi := { dst := some 86, op := Op.fieldAddr 29 (Operand.tmp 1) 1, type := 0, pos := "json.go:32", after := #[{ on := 18, ground := Ground.guard }], guard := some (18, true) }) (v := undef) rfl (by kernel_rfl) (by kernel_rfl) (by kernel_rfl) (fun _ _ _ h => h) (Or.inr ⟨by rfl, rfl⟩) (by assumption) ?_
              try simp only [Act.put, List.setIfInBounds_toArray, List.set_cons_zero, List.set_cons_succ]
              refine wpAnyH_take (i := 20) (oi := { dst := some 87, op := Op.load 26 (Operand.tmp 86), type := 26, pos := "json.go:32", after := #[{ on := 19, ground := Ground.data }, { on := 18, ground := Ground.guard }], guard := some (18, true) }) (v := undef) rfl (by kernel_rfl) (by kernel_rfl) (by kernel_rfl) (fun _ _ _ h => h) (Or.inr ⟨by rfl, rfl⟩) (by assumption) ?_
              try simp only [Act.put, List.setIfInBounds_toArray, List.set_cons_zero, List.set_cons_succ]
              refine wpAnyH_take (i := 21) (oi := { dst := some 88, op := Op.move (Operand.tmp 6), type := 3, pos := "json.go:32", after := #[{ on := 18, ground := Ground.guard }], guard := some (18, true) }) (v := undef) rfl (by kernel_rfl) (by kernel_rfl) (by kernel_rfl) (fun _ _ _ h => h) (Or.inr ⟨by rfl, rfl⟩) (by assumption) ?_
              try simp only [Act.put, List.setIfInBounds_toArray, List.set_cons_zero, List.set_cons_succ]
              refine wpAnyH_take (i := 22) (oi := { dst := some 89, op := Op.binOp BinOp.sub 3 (Operand.tmp 88) (Operand.const (Value.int IntKind.i64 1)) 3, type := 3, pos := "json.go:32", after := #[{ on := 21, ground := Ground.data }, { on := 18, ground := Ground.guard }], guard := some (18, true) }) (v := undef) rfl (by kernel_rfl) (by kernel_rfl) (by kernel_rfl) (fun _ _ _ h => h) (Or.inr ⟨by rfl, rfl⟩) (by assumption) ?_
              try simp only [Act.put, List.setIfInBounds_toArray, List.set_cons_zero, List.set_cons_succ]
              refine wpAnyH_take (i := 23) (oi := { dst := some 90, op := Op.indexAddr 26 (Operand.tmp 87) (Operand.tmp 89), type := 0, pos := "json.go:32", after := #[{ on := 20, ground := Ground.data }, { on := 22, ground := Ground.data }, { on := 18, ground := Ground.guard }], guard := some (18, true) }) (v := undef) rfl (by kernel_rfl) (by kernel_rfl) (by kernel_rfl) (fun _ _ _ h => h) (Or.inr ⟨by rfl, rfl⟩) (by assumption) ?_
              try simp only [Act.put, List.setIfInBounds_toArray, List.set_cons_zero, List.set_cons_succ]
              refine wpAnyH_take (i := 24) (oi := { dst := some 91, op := Op.load 9 (Operand.tmp 90), type := 9, pos := "json.go:32", after := #[{ on := 23, ground := Ground.data }, { on := 18, ground := Ground.guard }], guard := some (18, true) }) (v := undef) rfl (by kernel_rfl) (by kernel_rfl) (by kernel_rfl) (fun _ _ _ h => h) (Or.inr ⟨by rfl, rfl⟩) (by assumption) ?_
              try simp only [Act.put, List.setIfInBounds_toArray, List.set_cons_zero, List.set_cons_succ]
              refine wpAnyH_take (i := 25) (oi := { dst := some 92, op := Op.fieldAddr 29 (Operand.tmp 1) 1, type := 0, pos := "json.go:32", after := #[{ on := 18, ground := Ground.guard }], guard := some (18, true) }) (v := undef) rfl (by kernel_rfl) (by kernel_rfl) (by kernel_rfl) (fun _ _ _ h => h) (Or.inr ⟨by rfl, rfl⟩) (by assumption) ?_
              try simp only [Act.put, List.setIfInBounds_toArray, List.set_cons_zero, List.set_cons_succ]
              refine wpAnyH_take (i := 26) (oi := { dst := some 93, op := Op.load 26 (Operand.tmp 92), type := 26, pos := "json.go:32", after := #[{ on := 25, ground := Ground.data }, { on := 18, ground := Ground.guard }], guard := some (18, true) }) (v := undef) rfl (by kernel_rfl) (by kernel_rfl) (by kernel_rfl) (fun _ _ _ h => h) (Or.inr ⟨by rfl, rfl⟩) (by assumption) ?_
              try simp only [Act.put, List.setIfInBounds_toArray, List.set_cons_zero, List.set_cons_succ]
              refine wpAnyH_take (i := 27) (oi := { dst := some 94, op := Op.move (Operand.tmp 6), type := 3, pos := "json.go:32", after := #[{ on := 18, ground := Ground.guard }], guard := some (18, true) }) (v := undef) rfl (by kernel_rfl) (by kernel_rfl) (by kernel_rfl) (fun _ _ _ h => h) (Or.inr ⟨by rfl, rfl⟩) (by assumption) ?_
              try simp only [Act.put, List.setIfInBounds_toArray, List.set_cons_zero, List.set_cons_succ]
              refine wpAnyH_take (i := 28) (oi := { dst := some 95, op := Op.indexAddr 26 (Operand.tmp 93) (Operand.tmp 94), type := 0, pos := "json.go:32", after := #[{ on := 26, ground := Ground.data }, { on := 27, ground := Ground.data }, { on := 18, ground := Ground.guard }], guard := some (18, true) }) (v := undef) rfl (by kernel_rfl) (by kernel_rfl) (by kernel_rfl) (fun _ _ _ h => h) (Or.inr ⟨by rfl, rfl⟩) (by assumption) ?_
              try simp only [Act.put, List.setIfInBounds_toArray, List.set_cons_zero, List.set_cons_succ]
              refine wpAnyH_take (i := 29) (oi := { dst := some 96, op := Op.load 9 (Operand.tmp 95), type := 9, pos := "json.go:32", after := #[{ on := 28, ground := Ground.data }, { on := 18, ground := Ground.guard }], guard := some (18, true) }) (v := undef) rfl (by kernel_rfl) (by kernel_rfl) (by kernel_rfl) (fun _ _ _ h => h) (Or.inr ⟨by rfl, rfl⟩) (by assumption) ?_
              try simp only [Act.put, List.setIfInBounds_toArray, List.set_cons_zero, List.set_cons_succ]
              refine wpAnyH_take (i := 30) (oi := { dst := some 97, op := Op.binOp BinOp.geq 9 (Operand.tmp 91) (Operand.tmp 96) 9, type := 4, pos := "json.go:32", after := #[{ on := 24, ground := Ground.data }, { on := 29, ground := Ground.data }, { on := 18, ground := Ground.guard }], guard := some (18, true) }) (v := undef) rfl (by kernel_rfl) (by kernel_rfl) (by kernel_rfl) (fun _ _ _ h => h) (Or.inr ⟨by rfl, rfl⟩) (by assumption) ?_
              try simp only [Act.put, List.setIfInBounds_toArray, List.set_cons_zero, List.set_cons_succ]
              refine wpAnyH_take (i := 31) (oi := { dst := some 98, op := Op.pick (Operand.tmp 85) (Operand.tmp 97) (Operand.const (Value.bool false)), type := 4, pos := "json.go:32", after := #[{ on := 18, ground := Ground.data }, { on := 30, ground := Ground.data }, { on := 15, ground := Ground.guard }], guard := some (15, false) }) (v := undef) rfl (by kernel_rfl) (by kernel_rfl) (by kernel_rfl) (fun _ _ _ h => h) (Or.inr ⟨by rfl, rfl⟩) (by assumption) ?_
              try simp only [Act.put, List.setIfInBounds_toArray, List.set_cons_zero, List.set_cons_succ]
              refine wpAnyH_take (i := 32) (oi := { dst := some 99, op := Op.pick (Operand.tmp 82) (Operand.const (Value.bool true)) (Operand.tmp 98), type := 4, pos := "json.go:32", after := #[{ on := 15, ground := Ground.data }, { on := 31, ground := Ground.data }], guard := none }) (v := ?_) rfl (by kernel_rfl) (by kernel_rfl) (by kernel_rfl) (fun _ _ _ h => h) (Or.inl ⟨by rfl, ?_⟩) (by assumption) ?_
              rotate_left
              · intro wz hSw
                try dsimp only at hSw
                go_simp
                try with_reducible rfl
              try simp only [Act.put, List.setIfInBounds_toArray, List.set_cons_zero, List.set_cons_succ]
              refine wpAnyH_done (by kernel_rfl) ?_ _
              refine NoPanic.normal ?_
              go_wp2
              go_ret
              exact ⟨by rw [hv.out]; rfl, HB3.out.drew⟩
          · have g1 : ¬ (j : Int) < ks.length := by omega
            have HNT : Hid (nb = true) := by
              show nb = true
              rw [HNB.out, HU.out, List.drop_eq_nil_of_le (by omega)]; rfl
            clear hlt hj HU
            have d6 : wr.cell? ⟨w.heap.size, 6, none⟩ = some (.slice a ts.length cap) := Lib.cell_of_heap HX3.out 6
            go_wp2_with fail
            go_loopw [4, 7] (fun _ i w5 => ∃ m : Nat, m ≤ ts.length ∧ i = .int .i64 m ∧ Hid (formedsB ts = formedsB (ts.drop m)) ∧ Hid (w5.heap[w.heap.size]? = some (.cells #[.int .i64 5, .int .i64 n, .string t, .int .i64 o, .int .i64 c, .slice ak ks.length ck, .slice a ts.length cap] 29)) ∧ Hid (Below w.heap.size w w5)) (fun _ i _ => ts.length - (RowKit.intOf i).toNat)
            case atStart => exact ⟨0, Nat.zero_le _, rfl, rfl, HX3, HB3⟩
            case round =>
              clear d5 d6 HX3 HB3 HX2 HB2 g1
              obtain ⟨m, hm, rfl, HG, HX5, HB5⟩ := hrel
              have d6 : wr.cell? ⟨w.heap.size, 6, none⟩ = some (.slice a ts.length cap) := Lib.cell_of_heap HX5.out 6
              by_cases hlt : m < ts.length
              · have hju : m < us.length := by have := HL.out.1; omega
                obtain ⟨u, hu⟩ : ∃ u, us[m] = u := ⟨_, rfl⟩
                have hb5 := HB.out.trans (HB5.out.mono HB.out.size)
                obtain ⟨b, off, rfl, hb4, x0, x1, x2, x3, x4, x5, x6⟩ := HR.out.cells hb5 m hju u hu
                have E := HI.out m hju hlt wr hb5
                have g1 : (m : Int) < ts.length := by omega
                have g3 : (m : Int) < 8796093022208 := by have := HL.out; omega
                obtain ⟨⟨k', n', t', o', c'⟩, a1, n1, c1, a2, n2, c2, hpu⟩ := (HT.out m hju hlt).parts
                rw [hu] at E hpu
                have HD : Hid (ts.drop m = ts[m] :: ts.drop (m + 1)) := List.drop_eq_getElem_cons hlt
                have HJ : Hid (m < ts.length) := hlt
                generalize ts[m] = tm at *
                subst hpu
                dsimp only [tval] at E x0 x1 x2 x3 x4 x5 x6
                clear hu hju hlt hm hb5
                cases hq : formedB tm with
                | true =>
                  rw [hq] at E
                  go_wp2_with fail
                  go_fit E
                  rintro e w6 ⟨rfl, b6⟩
                  have HX6 : Hid (w6.heap[w.heap.size]? = some _) := (b6.block _ (lt_of_heap HX5.out)).trans HX5.out
                  have HB6 : Hid (Below w.heap.size w w6) := HB5.out.trans (b6.mono HB5.out.size)
                  clear b6 E x0 x1 x2 x3 x4 x5 x6 d6
                  go_wp2
                  go_roundw
                  case rel => exact ⟨m + 1, HJ.out, by go_num, by show formedsB ts = _; rw [HG.out, HD.out, formedsB_cons, hq, Bool.true_and], HX6, HB6⟩
                  case measure => simp [RowKit.intOf]; have := HJ.out; omega
                | false =>
                  rw [hq] at E
                  go_wp2_with fail
                  go_fit E
                  rintro e w6 ⟨rfl, b6⟩
                  have HB6 : Hid (Below w.heap.size w w6) := HB5.out.trans (b6.mono HB5.out.size)
                  have hv : Hid (res = false) := by
                    show res = false
                    rw [HF.out, HG.out, HD.out, formedsB_cons, hq, Bool.false_and, Bool.and_false]
                  clear b6 E x0 x1 x2 x3 x4 x5 x6 d6
                  go_wp2
                  go_ret
                  exact ⟨by rw [hv.out]; rfl, HB6.out⟩
              · have g1 : ¬ (m : Int) < ts.length := by omega
                have hv : Hid (res = true) := by
                  show res = true
                  rw [HF.out, HNT.out, HG.out, List.drop_eq_nil_of_le (by omega), formedsB_nil]; rfl
                clear hlt hm
                go_wp2
                go_ret
                exact ⟨by rw [hv.out]; rfl, HB5.out⟩
      · have hv : Hid (res = false) := by
          show res = false
          rw [HF.out, HV.out]; simp [hl]
        have q1 : ((ks.length : Int) != (ts.length : Int)) = true := by simp only [bne_iff_ne, ne_eq]; omega
        clear hl
        go_wp2
        go_ret
        exact ⟨by rw [hv.out]; rfl, HB2.out⟩
    have h5' : (k == 5) = false := by simpa using h5
    have h5'' : (k != 5) = true := by simpa using h5
    by_cases hl : ks.length = 0
    · have hks : ks = [] := List.length_eq_zero_iff.1 hl
      subst hks
      clear hl
      by_cases h6 : k = 6
      · subst h6
        have HNB : Hid (nb = upB [] ([] : List ByteArray)) := by
          show nb = _
          rw [HV.out, HVT.out]; rfl
        clear h5
        go_wp2_with fail
        go_loopw [6] (fun i wr => ∃ j : Nat, j ≤ ([] : List ByteArray).length ∧ i = .int .i64 j ∧ Hid (upB [] ([] : List ByteArray) = upB (prevK ([] : List ByteArray) j) (([] : List ByteArray).drop j)) ∧ Hid (wr.heap[w.heap.size]? = some (.cells #[.int .i64 6, .int .i64 n, .string t, .int .i64 o, .int .i64 c, .slice ak ([] : List ByteArray).length ck, .slice a ts.length cap] 29)) ∧ Hid (Below w.heap.size w wr)) (fun i _ => ([] : List ByteArray).length - (RowKit.intOf i).toNat)
        case atStart => exact ⟨0, Nat.zero_le _, rfl, rfl, HX2, HB2⟩
        case round =>
          obtain ⟨j, hj, rfl, HU, HX3, HB3⟩ := hrel
          have d5 : wr.cell? ⟨w.heap.size, 5, none⟩ = some (.slice ak ([] : List ByteArray).length ck) := Lib.cell_of_heap HX3.out 5
          by_cases hlt : j < ([] : List ByteArray).length
          · exact absurd hlt (by simp)
          · have g1 : ¬ (j : Int) < ([] : List ByteArray).length := by omega
            have HNT : Hid (nb = true) := by
              show nb = true
              rw [HNB.out, HU.out, List.drop_eq_nil_of_le (by omega)]; rfl
            clear hlt hj HU
            have d6 : wr.cell? ⟨w.heap.size, 6, none⟩ = some (.slice a ts.length cap) := Lib.cell_of_heap HX3.out 6
            go_wp2_with fail
            go_loopw [4, 7] (fun _ i w5 => ∃ m : Nat, m ≤ ts.length ∧ i = .int .i64 m ∧ Hid (formedsB ts = formedsB (ts.drop m)) ∧ Hid (w5.heap[w.heap.size]? = some (.cells #[.int .i64 6, .int .i64 n, .string t, .int .i64 o, .int .i64 c, .slice ak ([] : List ByteArray).length ck, .slice a ts.length cap] 29)) ∧ Hid (Below w.heap.size w w5)) (fun _ i _ => ts.length - (RowKit.intOf i).toNat)
            case atStart => exact ⟨0, Nat.zero_le _, rfl, rfl, HX3, HB3⟩
            case round =>
              clear d5 d6 HX3 HB3 HX2 HB2 g1
              obtain ⟨m, hm, rfl, HG, HX5, HB5⟩ := hrel
              have d6 : wr.cell? ⟨w.heap.size, 6, none⟩ = some (.slice a ts.length cap) := Lib.cell_of_heap HX5.out 6
              by_cases hlt : m < ts.length
              · have hju : m < us.length := by have := HL.out.1; omega
                obtain ⟨u, hu⟩ : ∃ u, us[m] = u := ⟨_, rfl⟩
                have hb5 := HB.out.trans (HB5.out.mono HB.out.size)
                obtain ⟨b, off, rfl, hb4, x0, x1, x2, x3, x4, x5, x6⟩ := HR.out.cells hb5 m hju u hu
                have E := HI.out m hju hlt wr hb5
                have g1 : (m : Int) < ts.length := by omega
                have g3 : (m : Int) < 8796093022208 := by have := HL.out; omega
                obtain ⟨⟨k', n', t', o', c'⟩, a1, n1, c1, a2, n2, c2, hpu⟩ := (HT.out m hju hlt).parts
                rw [hu] at E hpu
                have HD : Hid (ts.drop m = ts[m] :: ts.drop (m + 1)) := List.drop_eq_getElem_cons hlt
                have HJ : Hid (m < ts.length) := hlt
                generalize ts[m] = tm at *
                subst hpu
                dsimp only [tval] at E x0 x1 x2 x3 x4 x5 x6
                clear hu hju hlt hm hb5
                cases hq : formedB tm with
                | true =>
                  rw [hq] at E
                  go_wp2_with fail
                  go_fit E
                  rintro e w6 ⟨rfl, b6⟩
                  have HX6 : Hid (w6.heap[w.heap.size]? = some _) := (b6.block _ (lt_of_heap HX5.out)).trans HX5.out
                  have HB6 : Hid (Below w.heap.size w w6) := HB5.out.trans (b6.mono HB5.out.size)
                  clear b6 E x0 x1 x2 x3 x4 x5 x6 d6
                  go_wp2
                  go_roundw
                  case rel => exact ⟨m + 1, HJ.out, by go_num, by show formedsB ts = _; rw [HG.out, HD.out, formedsB_cons, hq, Bool.true_and], HX6, HB6⟩
                  case measure => simp [RowKit.intOf]; have := HJ.out; omega
                | false =>
                  rw [hq] at E
                  go_wp2_with fail
                  go_fit E
                  rintro e w6 ⟨rfl, b6⟩
                  have HB6 : Hid (Below w.heap.size w w6) := HB5.out.trans (b6.mono HB5.out.size)
                  have hv : Hid (res = false) := by
                    show res = false
                    rw [HF.out, HG.out, HD.out, formedsB_cons, hq, Bool.false_and, Bool.and_false]
                  clear b6 E x0 x1 x2 x3 x4 x5 x6 d6
                  go_wp2
                  go_ret
                  exact ⟨by rw [hv.out]; rfl, HB6.out⟩
              · have g1 : ¬ (m : Int) < ts.length := by omega
                have hv : Hid (res = true) := by
                  show res = true
                  rw [HF.out, HNT.out, HG.out, List.drop_eq_nil_of_le (by omega), formedsB_nil]; rfl
                clear hlt hm
                go_wp2
                go_ret
                exact ⟨by rw [hv.out]; rfl, HB5.out⟩
      · have g6 : k < 5 := by have := HKR.out; omega
        by_cases hn : ts.length = 0
        · have hts : ts = [] := List.length_eq_zero_iff.1 hn
          subst hts
          have HNB : Hid (nb = upB [] ([] : List ByteArray)) := by
            show nb = _
            rw [HV.out, HVT.out, if_neg h5, if_neg h6]; rfl
          clear h5 h6 hn
          go_wp2_with fail
          go_loopw [6] (fun i wr => ∃ j : Nat, j ≤ ([] : List ByteArray).length ∧ i = .int .i64 j ∧ Hid (upB [] ([] : List ByteArray) = upB (prevK ([] : List ByteArray) j) (([] : List ByteArray).drop j)) ∧ Hid (wr.heap[w.heap.size]? = some (.cells #[.int .i64 k, .int .i64 n, .string t, .int .i64 o, .int .i64 c, .slice ak ([] : List ByteArray).length ck, .slice a ([] : List JT).length cap] 29)) ∧ Hid (Below w.heap.size w wr)) (fun i _ => ([] : List ByteArray).length - (RowKit.intOf i).toNat)
          case atStart => exact ⟨0, Nat.zero_le _, rfl, rfl, HX2, HB2⟩
          case round =>
            obtain ⟨j, hj, rfl, HU, HX3, HB3⟩ := hrel
            have d5 : wr.cell? ⟨w.heap.size, 5, none⟩ = some (.slice ak ([] : List ByteArray).length ck) := Lib.cell_of_heap HX3.out 5
            by_cases hlt : j < ([] : List ByteArray).length
            · exact absurd hlt (by simp)
            · have g1 : ¬ (j : Int) < ([] : List ByteArray).length := by omega
              have HNT : Hid (nb = true) := by
                show nb = true
                rw [HNB.out, HU.out, List.drop_eq_nil_of_le (by omega)]; rfl
              clear hlt hj HU
              have d6 : wr.cell? ⟨w.heap.size, 6, none⟩ = some (.slice a ([] : List JT).length cap) := Lib.cell_of_heap HX3.out 6
              go_wp2_with fail
              go_loopw [4, 7] (fun _ i w5 => ∃ m : Nat, m ≤ ([] : List JT).length ∧ i = .int .i64 m ∧ Hid (formedsB ([] : List JT) = formedsB (([] : List JT).drop m)) ∧ Hid (w5.heap[w.heap.size]? = some (.cells #[.int .i64 k, .int .i64 n, .string t, .int .i64 o, .int .i64 c, .slice ak ([] : List ByteArray).length ck, .slice a ([] : List JT).length cap] 29)) ∧ Hid (Below w.heap.size w w5)) (fun _ i _ => ([] : List JT).length - (RowKit.intOf i).toNat)
              case atStart => exact ⟨0, Nat.zero_le _, rfl, rfl, HX3, HB3⟩
              case round =>
                clear d5 d6 HX3 HB3 HX2 HB2 g1
                obtain ⟨m, hm, rfl, HG, HX5, HB5⟩ := hrel
                have d6 : wr.cell? ⟨w.heap.size, 6, none⟩ = some (.slice a ([] : List JT).length cap) := Lib.cell_of_heap HX5.out 6
                by_cases hlt : m < ([] : List JT).length
                · exact absurd hlt (by simp)
                · have g1 : ¬ (m : Int) < ([] : List JT).length := by omega
                  have hv : Hid (res = true) := by
                    show res = true
                    rw [HF.out, HNT.out, HG.out, List.drop_eq_nil_of_le (by omega), formedsB_nil]; rfl
                  clear hlt hm
                  go_wp2
                  go_ret
                  exact ⟨by rw [hv.out]; rfl, HB5.out⟩
        · have hv : Hid (res = false) := by
            show res = false
            rw [HF.out, HV.out, if_neg h5, if_neg h6, decide_eq_false hn]; simp
          have q1 : (0 : Int) < ts.length := by omega
          clear hn h5 h6
          go_wp2
          go_ret
          exact ⟨by rw [hv.out]; rfl, HB2.out⟩
    · have hv : Hid (res = false) := by
        show res = false
        rw [HF.out, HV.out, HEK.out, if_neg h5, decide_eq_false hl]; simp
      have q1 : (0 : Int) < ks.length := by omega
      have q2 : ¬ ks = [] := fun e => hl (by rw [e]; rfl)
      clear hl h5
      go_wp2
      go_ret
      exact ⟨by rw [hv.out]; rfl, HB2.out⟩
end Go.Proofs.YtegbjkjeoegfbaaDoor
