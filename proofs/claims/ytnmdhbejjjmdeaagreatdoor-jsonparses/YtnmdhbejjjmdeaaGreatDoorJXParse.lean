/-
  What is proved: json's Parse reads the tree whose text it is given, or tells that there is none.
  Conditions: package variables lie as the text lays them.
-/
import Derived.Test.YtnmdhbejjjmdeaaGreatDoorJXTr
import Derived.Defers
import Derived.Recover
namespace Go.Proofs.YtnmdhbejjjmdeaaGreatDoor
open Go.RowKit Go.Sort

theorem catch_idle (a b c : Addr) (w : World) :
    CallsD Tryz.prog 9 #[.pointer (some a), .pointer (some b), .pointer (some c)] .returning w fun e u' w' => e = .returned (.tuple #[]) ∧ u' = .returning ∧ w' = w := by
  refine callsD_of_wpS Tryz.func9 rfl fun c₀ cs hu => ?_
  apply wpS_seq
  apply wpS_region
  simp [wpOpsS, go_sem, recoverD, hu, Tryz.ntmps9, Exit.thenS]
  apply wpS_seq
  apply wpS_region
  simp [wpOpsS, go_sem, Exit.thenS]
  refine wpS_cond (t := false) (by simp [Act.eval, Array.replicate]) ?_
  simp only [Bool.false_eq_true, if_false]
  refine wpS_of_wp (wp_skip ?_)
  cases c₀
  simp_all [bodyPostS, results, Tryz.results9]

set_option maxRecDepth 100000 in
theorem catch_fault (g k : Nat) (x : Int) (u0 u1 u2 u3 u4 u5 u6 v1 v2 : Value) (w : World) (h0 : w.heap[g]? = some (.cells #[u0, u1, u2, u3, u4, u5, u6] 29)) (h1 : w.heap[g + 1]? = some (.cells #[v1] 3)) (h2 : w.heap[g + 2]? = some (.cells #[v2] 33)) :
    CallsD Tryz.prog 9 #[.pointer (some ⟨g, 0, none⟩), .pointer (some ⟨g + 1, 0, none⟩), .pointer (some ⟨g + 2, 0, none⟩)] (.panicking [{ v := faultV k x, recovered := false }]) w fun e u' w' =>
      e = .returned (.tuple #[]) ∧ u' = .panicking [{ v := faultV k x, recovered := true }] ∧ Below g w w' ∧ w'.heap[g]? = some zO ∧ w'.heap[g + 1]? = some (.cells #[.int .i64 (k : Int)] 3) ∧ w'.heap[g + 2]? = some (.cells #[.iface 43 (.int .i64 x)] 33) := by
  refine callsD_of_wpS Tryz.func9 rfl fun c₀ cs hu => ?_
  apply wpS_seq
  apply wpS_region
  simp [wpOpsS, go_sem, recoverD, hu, Tryz.ntmps9, Exit.thenS]
  apply wpS_seq
  apply wpS_region
  simp [wpOpsS, go_sem, Exit.thenS]
  refine wpS_cond (t := true) (by simp [Act.eval, Array.replicate]) ?_
  simp only [if_true]
  refine wpS_of_wp ?_
  rw [show Array.replicate 13 undef = #[undef, undef, undef, undef, undef, undef, undef, undef, undef, undef, undef, undef, undef] from rfl]
  simp only [List.setIfInBounds_toArray, List.set_cons_zero, List.set_cons_succ, List.append_toArray, List.cons_append, List.nil_append]
  have hta : ∀ W : World, (Instr.typeAssert (faultV k x) 20 45 false).run Tryz.prog W = .ok (.agg #[.int .i64 (k : Int), .int .i64 x]) W := fun W => by
    simp [Instr.typeAssert, go_sem]
  have hg : g < w.heap.size ∧ g + 1 < w.heap.size ∧ g + 2 < w.heap.size := ⟨lt_of_heap h0, lt_of_heap h1, lt_of_heap h2⟩
  have hbl : Below w.heap.size w (w.alloc (.cells #[.int .i64 (k : Int), .int .i64 x] 45)) := (Below.refl _ _).alloc (Nat.le_refl _) _
  have hfx : (w.alloc (.cells #[.int .i64 (k : Int), .int .i64 x] 45)).heap[w.heap.size]? = some (.cells #[.int .i64 (k : Int), .int .i64 x] 45) := one_new w _
  go_wp2_with fail
  clear hta
  generalize w.alloc (.cells #[.int .i64 (k : Int), .int .i64 x] 45) = W1 at *
  have k0 := (hbl.block _ hg.1).trans h0
  have k1 := (hbl.block _ hg.2.1).trans h1
  have k2 := (hbl.block _ hg.2.2).trans h2
  have HB : Hid (Below g w W1) := hbl.mono (by omega)
  obtain ⟨gf, hgf⟩ : ∃ gf, w.heap.size = gf := ⟨_, rfl⟩
  rw [hgf] at hfx hg ⊢
  have f0 : W1.cell? ⟨gf, 0, none⟩ = some (.int .i64 (k : Int)) := Lib.cell_of_heap hfx 0
  have f1 : W1.cell? ⟨gf, 1, none⟩ = some (.int .i64 x) := Lib.cell_of_heap hfx 1
  have HG : Hid (g < gf ∧ g + 1 < gf ∧ g + 2 < gf) := hg
  have HS : Hid (∀ (W : World) (b : Nat) (j : Nat) (v : Value), b ≠ gf → (W.cell? ⟨gf, 0, none⟩ = some (.int .i64 (k : Int)) ∧ W.cell? ⟨gf, 1, none⟩ = some (.int .i64 x)) → ((W.setCell ⟨b, j, none⟩ v).cell? ⟨gf, 0, none⟩ = some (.int .i64 (k : Int)) ∧ (W.setCell ⟨b, j, none⟩ v).cell? ⟨gf, 1, none⟩ = some (.int .i64 x))) := fun W b j v hb h =>
    ⟨(World.cell?_of_block (a := ⟨gf, 0, none⟩) (Below.heap_setCell _ _ _ _ (by simpa using hb.symm))).trans h.1, (World.cell?_of_block (a := ⟨gf, 1, none⟩) (Below.heap_setCell _ _ _ _ (by simpa using hb.symm))).trans h.2⟩
  have K0 : Hid (W1.heap[g]? = some (.cells #[u0, u1, u2, u3, u4, u5, u6] 29)) := k0
  have K1 : Hid (W1.heap[g + 1]? = some (.cells #[v1] 3)) := k1
  have K2 : Hid (W1.heap[g + 2]? = some (.cells #[v2] 33)) := k2
  have t0 : W1.cell? ⟨g, 0, none⟩ = some u0 := Lib.cell_of_heap k0 0
  have t1 : W1.cell? ⟨g, 1, none⟩ = some u1 := Lib.cell_of_heap k0 1
  have t2 : W1.cell? ⟨g, 2, none⟩ = some u2 := Lib.cell_of_heap k0 2
  have t3 : W1.cell? ⟨g, 3, none⟩ = some u3 := Lib.cell_of_heap k0 3
  have t4 : W1.cell? ⟨g, 4, none⟩ = some u4 := Lib.cell_of_heap k0 4
  have t5 : W1.cell? ⟨g, 5, none⟩ = some u5 := Lib.cell_of_heap k0 5
  have t6 : W1.cell? ⟨g, 6, none⟩ = some u6 := Lib.cell_of_heap k0 6
  have tf := Lib.frozen_of_heap k0
  clear h0 h1 h2 hbl hgf k0 k1 k2 hfx hg
  refine wp_region_noPanic ?_
  refine wp_region_held_drew (S := fun W => W.cell? ⟨gf, 0, none⟩ = some (.int .i64 (k : Int)) ∧ W.cell? ⟨gf, 1, none⟩ = some (.int .i64 x)) (by kernel_rfl) (⟨f0, f1⟩) (fun hHeld => ?_)
  refine wpAnyH_take (i := 0) (oi := { dst := some 10, op := Op.build 29 #[], type := 29, pos := "parse.go:33", after := #[], guard := none }) (v := ?_) rfl (by kernel_rfl) (by kernel_rfl) (by kernel_rfl) (fun _ _ _ h => h) (Or.inl ⟨by rfl, ?_⟩) (by assumption) ?_
  rotate_left
  · intro wz hSw
    try dsimp only at hSw
    go_simp
    try with_reducible rfl
  try simp only [Act.put, List.setIfInBounds_toArray, List.set_cons_zero, List.set_cons_succ]
  refine wpAnyH_take (i := 1) (oi := { dst := some 11, op := Op.fieldAddr 45 (Operand.tmp 4) 0, type := 0, pos := "parse.go:33", after := #[{ on := 6, ground := Ground.gcOnly Departure.lateStores }], guard := none }) (v := ?_) rfl (by kernel_rfl) (by kernel_rfl) (by kernel_rfl) (fun _ _ _ h => h) (Or.inl ⟨by rfl, ?_⟩) (by assumption) ?_
  rotate_left
  · intro wz hSw
    try dsimp only at hSw
    go_simp
    try with_reducible rfl
  try simp only [Act.put, List.setIfInBounds_toArray, List.set_cons_zero, List.set_cons_succ]
  refine wpAnyH_take (i := 2) (oi := { dst := some 12, op := Op.load 3 (Operand.tmp 11), type := 3, pos := "parse.go:33", after := #[{ on := 1, ground := Ground.data }, { on := 6, ground := Ground.gcOnly Departure.lateStores }], guard := none }) (v := ?_) rfl (by kernel_rfl) (by kernel_rfl) (by kernel_rfl) (fun _ _ _ h => h) (Or.inl ⟨by rfl, ?_⟩) (by assumption) ?_
  rotate_left
  · intro wz hSw
    try dsimp only at hSw
    go_simp
    try with_reducible rfl
  try simp only [Act.put, List.setIfInBounds_toArray, List.set_cons_zero, List.set_cons_succ]
  refine wpAnyH_take (i := 3) (oi := { dst := some 13, op := Op.fieldAddr 45 (Operand.tmp 4) 1, type := 0, pos := "parse.go:33", after := #[], guard := none }) (v := ?_) rfl (by kernel_rfl) (by kernel_rfl) (by kernel_rfl) (fun _ _ _ h => h) (Or.inl ⟨by rfl, ?_⟩) (by assumption) ?_
  rotate_left
  · intro wz hSw
    try dsimp only at hSw
    go_simp
    try with_reducible rfl
  try simp only [Act.put, List.setIfInBounds_toArray, List.set_cons_zero, List.set_cons_succ]
  refine wpAnyH_take (i := 4) (oi := { dst := some 14, op := Op.load 43 (Operand.tmp 13), type := 43, pos := "parse.go:33", after := #[{ on := 3, ground := Ground.data }], guard := none }) (v := ?_) rfl (by kernel_rfl) (by kernel_rfl) (by kernel_rfl) (fun _ _ _ h => h) (Or.inl ⟨by rfl, ?_⟩) (by assumption) ?_
  rotate_left
  · intro wz hSw
    try dsimp only at hSw
    go_simp
    try with_reducible rfl
  try simp only [Act.put, List.setIfInBounds_toArray, List.set_cons_zero, List.set_cons_succ]
  refine wpAnyH_take (i := 5) (oi := { dst := some 15, op := Op.makeInterface 43 (Operand.tmp 14), type := 33, pos := "parse.go:33", after := #[{ on := 4, ground := Ground.data }, { on := 7, ground := Ground.gcOnly Departure.lateStores }], guard := none }) (v := ?_) rfl (by kernel_rfl) (by kernel_rfl) (by kernel_rfl) (fun _ _ _ h => h) (Or.inl ⟨by rfl, ?_⟩) (by assumption) ?_
  rotate_left
  · intro wz hSw
    try dsimp only at hSw
    go_simp
    try with_reducible rfl
  try simp only [Act.put, List.setIfInBounds_toArray, List.set_cons_zero, List.set_cons_succ]
  have hd : ∃ Wd, Wd = W1.drew := ⟨_, rfl⟩
  obtain ⟨Wd, hd⟩ := hd
  have K0d : Wd.heap[g]? = some (.cells #[u0, u1, u2, u3, u4, u5, u6] 29) := by rw [hd]; exact K0.out
  have K1d : Wd.heap[g + 1]? = some (.cells #[v1] 3) := by rw [hd]; exact K1.out
  have K2d : Wd.heap[g + 2]? = some (.cells #[v2] 33) := by rw [hd]; exact K2.out
  have HBd : Below g w Wd := by rw [hd]; exact HB.out.drew
  have f0d : Wd.cell? ⟨gf, 0, none⟩ = some (.int .i64 (k : Int)) := by rw [hd]; exact f0
  have f1d : Wd.cell? ⟨gf, 1, none⟩ = some (.int .i64 x) := by rw [hd]; exact f1
  have t0d : Wd.cell? ⟨g, 0, none⟩ = some u0 := by rw [hd]; exact t0
  have t1d : Wd.cell? ⟨g, 1, none⟩ = some u1 := by rw [hd]; exact t1
  have t2d : Wd.cell? ⟨g, 2, none⟩ = some u2 := by rw [hd]; exact t2
  have t3d : Wd.cell? ⟨g, 3, none⟩ = some u3 := by rw [hd]; exact t3
  have t4d : Wd.cell? ⟨g, 4, none⟩ = some u4 := by rw [hd]; exact t4
  have t5d : Wd.cell? ⟨g, 5, none⟩ = some u5 := by rw [hd]; exact t5
  have t6d : Wd.cell? ⟨g, 6, none⟩ = some u6 := by rw [hd]; exact t6
  have tfd : ∀ j, Wd.frozen? ⟨g, j, none⟩ = false := fun j => by rw [hd]; exact tf j
  rw [← hd] at hHeld ⊢
  clear hd t0 t1 t2 t3 t4 t5 t6 tf f0 f1 K0 K1 K2 HB
  have hk1 : ((((((((Wd.setCell ⟨g, 0, none⟩ (.int .i64 0)).setCell ⟨g, 1, none⟩ (.int .i64 0)).setCell ⟨g, 2, none⟩ (.string ⟨#[]⟩)).setCell ⟨g, 3, none⟩ (.int .i64 0)).setCell ⟨g, 4, none⟩ (.int .i64 0)).setCell ⟨g, 5, none⟩ (.slice none 0 0)).setCell ⟨g, 6, none⟩ (.slice none 0 0))).cell? ⟨gf, 0, none⟩ = some (.int .i64 (k : Int)) ∧ ((((((((Wd.setCell ⟨g, 0, none⟩ (.int .i64 0)).setCell ⟨g, 1, none⟩ (.int .i64 0)).setCell ⟨g, 2, none⟩ (.string ⟨#[]⟩)).setCell ⟨g, 3, none⟩ (.int .i64 0)).setCell ⟨g, 4, none⟩ (.int .i64 0)).setCell ⟨g, 5, none⟩ (.slice none 0 0)).setCell ⟨g, 6, none⟩ (.slice none 0 0))).cell? ⟨gf, 1, none⟩ = some (.int .i64 x) := HS.out _ _ _ _ (by have := HG.out; omega) (HS.out _ _ _ _ (by have := HG.out; omega) (HS.out _ _ _ _ (by have := HG.out; omega) (HS.out _ _ _ _ (by have := HG.out; omega) (HS.out _ _ _ _ (by have := HG.out; omega) (HS.out _ _ _ _ (by have := HG.out; omega) (HS.out _ _ _ _ (by have := HG.out; omega) ⟨f0d, f1d⟩))))))
  have X0 : Hid (((((((((Wd.setCell ⟨g, 0, none⟩ (.int .i64 0)).setCell ⟨g, 1, none⟩ (.int .i64 0)).setCell ⟨g, 2, none⟩ (.string ⟨#[]⟩)).setCell ⟨g, 3, none⟩ (.int .i64 0)).setCell ⟨g, 4, none⟩ (.int .i64 0)).setCell ⟨g, 5, none⟩ (.slice none 0 0)).setCell ⟨g, 6, none⟩ (.slice none 0 0))).heap[g]? = some zO) := set7 K0d (.int .i64 0) (.int .i64 0) (.string ⟨#[]⟩) (.int .i64 0) (.int .i64 0) (.slice none 0 0) (.slice none 0 0)
  have X1 := set7_other (g := g) K1d (by omega) (.int .i64 0) (.int .i64 0) (.string ⟨#[]⟩) (.int .i64 0) (.int .i64 0) (.slice none 0 0) (.slice none 0 0)
  have X2 := set7_other (g := g) K2d (by omega) (.int .i64 0) (.int .i64 0) (.string ⟨#[]⟩) (.int .i64 0) (.int .i64 0) (.slice none 0 0) (.slice none 0 0)
  have XB : Hid (Below g w (((((((Wd.setCell ⟨g, 0, none⟩ (.int .i64 0)).setCell ⟨g, 1, none⟩ (.int .i64 0)).setCell ⟨g, 2, none⟩ (.string ⟨#[]⟩)).setCell ⟨g, 3, none⟩ (.int .i64 0)).setCell ⟨g, 4, none⟩ (.int .i64 0)).setCell ⟨g, 5, none⟩ (.slice none 0 0)).setCell ⟨g, 6, none⟩ (.slice none 0 0))) := set7_below HBd (Nat.le_refl _) (.int .i64 0) (.int .i64 0) (.string ⟨#[]⟩) (.int .i64 0) (.int .i64 0) (.slice none 0 0) (.slice none 0 0)
  refine wpAnyH_ready (rs := [6]) (by kernel_rfl) (by simp) (AllReadyH.cons (o := { dst := none, op := Op.store 29 (Operand.tmp 0) (Operand.tmp 10), type := 0, pos := "parse.go:33", after := #[{ on := 0, ground := Ground.data }, { on := 0, ground := Ground.phase }, { on := 1, ground := Ground.textOnly Departure.lateStores }, { on := 2, ground := Ground.textOnly Departure.lateStores }, { on := 3, ground := Ground.textOnly Departure.lateStores }, { on := 4, ground := Ground.textOnly Departure.lateStores }, { on := 5, ground := Ground.textOnly Departure.lateStores }], guard := none }) rfl (fun K hK => ?_) AllReadyH.nil)
  go_simp
  refine hK.out _ _ (hk1) (fun hHeld6 => ?_)
  clear hK K
  try simp only [Act.put, List.setIfInBounds_toArray, List.set_cons_zero, List.set_cons_succ]
  clear t0d t1d t2d t3d t4d t5d t6d tfd f0d f1d K0d K1d K2d HBd hHeld
  generalize (((((((Wd.setCell ⟨g, 0, none⟩ (.int .i64 0)).setCell ⟨g, 1, none⟩ (.int .i64 0)).setCell ⟨g, 2, none⟩ (.string ⟨#[]⟩)).setCell ⟨g, 3, none⟩ (.int .i64 0)).setCell ⟨g, 4, none⟩ (.int .i64 0)).setCell ⟨g, 5, none⟩ (.slice none 0 0)).setCell ⟨g, 6, none⟩ (.slice none 0 0)) = W2 at *
  have s1 : W2.cell? ⟨g + 1, 0, none⟩ = some v1 := Lib.cell_of_heap X1 0
  have sf := Lib.frozen_of_heap X1
  have hk2 := HS.out W2 (g + 1) 0 (.int .i64 (k : Int)) (by have := HG.out; omega) hk1
  have Y1 : Hid ((W2.setCell ⟨g + 1, 0, none⟩ (.int .i64 (k : Int))).heap[g + 1]? = some (.cells #[.int .i64 (k : Int)] 3)) := set_atR X1 0 _
  have Y0 : Hid ((W2.setCell ⟨g + 1, 0, none⟩ (.int .i64 (k : Int))).heap[g]? = some zO) := (Below.heap_setCell _ _ _ _ (by simp)).trans X0.out
  have Y2 : (W2.setCell ⟨g + 1, 0, none⟩ (.int .i64 (k : Int))).heap[g + 2]? = some (.cells #[v2] 33) := (Below.heap_setCell _ _ _ _ (by simp)).trans X2
  have YB : Hid (Below g w (W2.setCell ⟨g + 1, 0, none⟩ (.int .i64 (k : Int)))) := XB.out.setCell (by simp) _
  refine wpAnyH_ready (rs := [7]) (by kernel_rfl) (by simp) (AllReadyH.cons (o := { dst := none, op := Op.store 3 (Operand.tmp 1) (Operand.tmp 12), type := 0, pos := "parse.go:33", after := #[{ on := 2, ground := Ground.data }, { on := 6, ground := Ground.chain }, { on := 0, ground := Ground.phase }, { on := 1, ground := Ground.phase }, { on := 2, ground := Ground.phase }, { on := 3, ground := Ground.textOnly Departure.lateStores }, { on := 4, ground := Ground.textOnly Departure.lateStores }, { on := 5, ground := Ground.textOnly Departure.lateStores }, { on := 6, ground := Ground.phase }], guard := none }) rfl (fun K hK => ?_) AllReadyH.nil)
  go_simp
  refine hK.out _ _ (hk2) (fun hHeld7 => ?_)
  clear hK K
  try simp only [Act.put, List.setIfInBounds_toArray, List.set_cons_zero, List.set_cons_succ]
  clear s1 sf X0 X1 X2 XB
  generalize W2.setCell ⟨g + 1, 0, none⟩ (.int .i64 (k : Int)) = W3 at *
  have s2 : W3.cell? ⟨g + 2, 0, none⟩ = some v2 := Lib.cell_of_heap Y2 0
  have sf := Lib.frozen_of_heap Y2
  have hk3 := HS.out W3 (g + 2) 0 (.iface 43 (.int .i64 x)) (by have := HG.out; omega) hk2
  have Z2 : Hid ((W3.setCell ⟨g + 2, 0, none⟩ (.iface 43 (.int .i64 x))).heap[g + 2]? = some (.cells #[.iface 43 (.int .i64 x)] 33)) := set_atR Y2 0 _
  have Z0 : Hid ((W3.setCell ⟨g + 2, 0, none⟩ (.iface 43 (.int .i64 x))).heap[g]? = some zO) := (Below.heap_setCell _ _ _ _ (by simp)).trans Y0.out
  have Z1 : Hid ((W3.setCell ⟨g + 2, 0, none⟩ (.iface 43 (.int .i64 x))).heap[g + 1]? = some (.cells #[.int .i64 (k : Int)] 3)) := (Below.heap_setCell _ _ _ _ (by simp)).trans Y1.out
  have ZB : Hid (Below g w (W3.setCell ⟨g + 2, 0, none⟩ (.iface 43 (.int .i64 x)))) := YB.out.setCell (by simp) _
  refine wpAnyH_ready (rs := [8]) (by kernel_rfl) (by simp) (AllReadyH.cons (o := { dst := none, op := Op.store 33 (Operand.tmp 2) (Operand.tmp 15), type := 0, pos := "parse.go:33", after := #[{ on := 5, ground := Ground.data }, { on := 7, ground := Ground.chain }, { on := 0, ground := Ground.phase }, { on := 1, ground := Ground.phase }, { on := 2, ground := Ground.phase }, { on := 3, ground := Ground.phase }, { on := 4, ground := Ground.phase }, { on := 5, ground := Ground.phase }, { on := 6, ground := Ground.phase }, { on := 7, ground := Ground.phase }], guard := none }) rfl (fun K hK => ?_) AllReadyH.nil)
  go_simp
  refine hK.out _ _ (hk3) (fun hHeld8 => ?_)
  clear hK K
  try simp only [Act.put, List.setIfInBounds_toArray, List.set_cons_zero, List.set_cons_succ]
  clear s2 sf Y0 Y1 Y2 YB
  generalize W3.setCell ⟨g + 2, 0, none⟩ (.iface 43 (.int .i64 x)) = W4 at *
  refine wpAnyH_done (by kernel_rfl) ?_ _
  refine NoPanic.normal ?_
  have HALL : Hid (Below g w W4 ∧ W4.heap[g]? = some zO ∧ W4.heap[g + 1]? = some (.cells #[.int .i64 (k : Int)] 3) ∧ W4.heap[g + 2]? = some (.cells #[.iface 43 (.int .i64 x)] 33)) := ⟨ZB.out, Z0.out, Z1.out, Z2.out⟩
  clear Z0 Z1 Z2 ZB hk1 hk2 hk3 hHeld6 hHeld7 hHeld8
  show bodyPostS _ _ _ _ _ _ _ _ _
  simp [bodyPostS, results, Tryz.results9]
  exact HALL.out
end Go.Proofs.YtnmdhbejjjmdeaaGreatDoor
