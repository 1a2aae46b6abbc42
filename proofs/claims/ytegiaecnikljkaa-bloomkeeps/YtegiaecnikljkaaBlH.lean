/-
  What is proved: what Has of package bloom answers of a filter in which all places of a ref are set: that it is there.
  Conditions: the filter lies in memory, the ref is one.
-/
import Derived.Test.YtegiaecnikljkaaBlM
import Derived.Laws.EntriesVeiled
import Derived.Shelf.Abstract
namespace Go.Proofs.Ytegiaecnikljkaa
open Go.RowKit

theorem and_bit (y : UInt8) (k : Nat) (h : y.toNat.testBit (k % 8) = true) : (bits .and .u8 (y.toNat : Int) ((2 ^ (k % 8) : Nat) : Int) == 0) = false := by
  have h1 : ∀ x : Fin 256, ∀ i : Fin 8, x.val.testBit i.val = true → (bits .and .u8 (x.val : Int) ((2 ^ i.val : Nat) : Int) == 0) = false := by decide +kernel
  exact h1 ⟨y.toNat, y.toNat_lt⟩ ⟨k % 8, Nat.mod_lt _ (by omega)⟩ h

/-- What the function that Has hands out answers. -/
theorem has1_any (g n kk p : Nat) (y : UInt8) (hk : kk < 4096) (hn : kk / 8 < n) (hy : y.toNat.testBit (kk % 8) = true) (w : World) (c0 : w.cell? ⟨p, 0, none⟩ = some (.slice (some ⟨g, 0, none⟩) n n)) (c1 : w.cell? ⟨g, kk / 8, none⟩ = some (.int .u8 y.toNat)) :
    Calls Try.prog 9 #[.int .i64 (kk : Int), .pointer (some ⟨p, 0, none⟩)] w fun e w' => e = .returned (.bool false) ∧ Below w.heap.size w w' := by
  have hand := and_bit y kk hy
  have E6 : ∀ W, Calls Try.prog 8 #[.int .i64 (kk : Int)] W fun e w' => e = .returned (.int .u8 ((2 ^ (kk % 8) : Nat) : Int)) ∧ w' = W := fun W => bit_any kk hk W
  obtain ⟨bv, hbv⟩ : ∃ bv : Int, ((2 ^ (kk % 8) : Nat) : Int) = bv := ⟨_, rfl⟩
  obtain ⟨yv, hyv⟩ : ∃ yv : Int, (y.toNat : Int) = yv := ⟨_, rfl⟩
  rw [hbv, hyv] at hand
  rw [hyv] at c1
  simp only [hbv] at E6
  obtain ⟨zv, hzv⟩ : ∃ zv : Int, bits .and .u8 yv bv = zv := ⟨_, rfl⟩
  rw [hzv] at hand
  obtain ⟨kq, hkq⟩ : ∃ kq : Nat, kk / 8 = kq := ⟨_, rfl⟩
  have hdv : IntKind.i64.wrap ((kk : Int) / 8) = (kq : Int) := by rw [IntWalk.i64_in _ (by omega)]; omega
  rw [hkq] at c1 hn
  have kn : (kq : Int) < n := by omega
  clear hbv hyv hkq hy hk hn
  go_enter Try.func9, Try.ntmps9
  go_wp2_with fail
  refine wp_region_noPanic ?_
  refine wp_region_held_drew (S := fun W => W.cell? ⟨p, 0, none⟩ = some (.slice (some ⟨g, 0, none⟩) n n) ∧ W.cell? ⟨g, kq, none⟩ = some (.int .u8 yv)) (by kernel_rfl) (⟨c0, c1⟩) (fun hHeld => ?_)
  refine wpAnyH_take (i := 0) (oi := { dst := some 4, op := Op.load 23 (Operand.tmp 1), type := 23, pos := "bloom.go:72", after := #[], guard := none }) (v := ?_) rfl (by kernel_rfl) (by kernel_rfl) (by kernel_rfl) (fun _ _ _ h => h) (Or.inl ⟨by rfl, ?_⟩) (by assumption) ?_
  rotate_left
  · intro wz hSw
    try dsimp only at hSw
    go_simp
    try with_reducible rfl
  try simp only [Act.put, List.setIfInBounds_toArray, List.set_cons_zero, List.set_cons_succ]
  refine wpAnyH_take (i := 1) (oi := { dst := some 5, op := Op.move (Operand.tmp 0), type := 3, pos := "bloom.go:72", after := #[], guard := none }) (v := ?_) rfl (by kernel_rfl) (by kernel_rfl) (by kernel_rfl) (fun _ _ _ h => h) (Or.inl ⟨by rfl, ?_⟩) (by assumption) ?_
  rotate_left
  · intro wz hSw
    try dsimp only at hSw
    go_simp
    try with_reducible rfl
  try simp only [Act.put, List.setIfInBounds_toArray, List.set_cons_zero, List.set_cons_succ]
  refine wpAnyH_take (i := 2) (oi := { dst := some 6, op := Op.binOp BinOp.quo 3 (Operand.tmp 5) (Operand.const (Value.int IntKind.i64 8)) 3, type := 3, pos := "bloom.go:72", after := #[{ on := 1, ground := Ground.data }], guard := none }) (v := ?_) rfl (by kernel_rfl) (by kernel_rfl) (by kernel_rfl) (fun _ _ _ h => h) (Or.inl ⟨by rfl, ?_⟩) (by assumption) ?_
  rotate_left
  · intro wz hSw
    try dsimp only at hSw
    go_simp
    try with_reducible rfl
  try simp only [Act.put, List.setIfInBounds_toArray, List.set_cons_zero, List.set_cons_succ]
  refine wpAnyH_take (i := 3) (oi := { dst := some 7, op := Op.indexAddr 23 (Operand.tmp 4) (Operand.tmp 6), type := 0, pos := "bloom.go:72", after := #[{ on := 0, ground := Ground.data }, { on := 2, ground := Ground.data }], guard := none }) (v := ?_) rfl (by kernel_rfl) (by kernel_rfl) (by kernel_rfl) (fun _ _ _ h => h) (Or.inl ⟨by rfl, ?_⟩) (by assumption) ?_
  rotate_left
  · intro wz hSw
    try dsimp only at hSw
    go_simp
    try with_reducible rfl
  try simp only [Act.put, List.setIfInBounds_toArray, List.set_cons_zero, List.set_cons_succ]
  refine wpAnyH_take (i := 4) (oi := { dst := some 8, op := Op.load 5 (Operand.tmp 7), type := 5, pos := "bloom.go:72", after := #[{ on := 3, ground := Ground.data }], guard := none }) (v := ?_) rfl (by kernel_rfl) (by kernel_rfl) (by kernel_rfl) (fun _ _ _ h => h) (Or.inl ⟨by rfl, ?_⟩) (by assumption) ?_
  rotate_left
  · intro wz hSw
    try dsimp only at hSw
    go_simp
    try with_reducible rfl
  try simp only [Act.put, List.setIfInBounds_toArray, List.set_cons_zero, List.set_cons_succ]
  refine wpAnyH_take (i := 5) (oi := { dst := some 9, op := Op.move (Operand.tmp 0), type := 3, pos := "bloom.go:72", after := #[], guard := none }) (v := ?_) rfl (by kernel_rfl) (by kernel_rfl) (by kernel_rfl) (fun _ _ _ h => h) (Or.inl ⟨by rfl, ?_⟩) (by assumption) ?_
  rotate_left
  · intro wz hSw
    try dsimp only at hSw
    go_simp
    try with_reducible rfl
  try simp only [Act.put, List.setIfInBounds_toArray, List.set_cons_zero, List.set_cons_succ]
  refine wpAnyH_ready (rs := [6]) (by kernel_rfl) (by simp) (AllReadyH.cons (o := { dst := some 10, op := Op.call { callee := Callee.value (Operand.func 8), args := #[Operand.tmp 9], argTypes := #[3] }, type := 5, pos := "bloom.go:72", after := #[{ on := 5, ground := Ground.data }], guard := none }) rfl (fun K hK => ?_) AllReadyH.nil)
  go_simp
  go_at_call 8
  refine Calls.mono (E6 _) ?_
  rintro e w6 ⟨rfl, rfl⟩
  go_wp2_with fail
  refine hK.out _ _ (by assumption) (fun hHeld6 => ?_)
  clear hK K
  try simp only [Act.put, List.setIfInBounds_toArray, List.set_cons_zero, List.set_cons_succ]
  refine wpAnyH_take (i := 7) (oi := { dst := some 11, op := Op.binOp BinOp.and 5 (Operand.tmp 8) (Operand.tmp 10) 5, type := 5, pos := "bloom.go:72", after := #[{ on := 4, ground := Ground.data }, { on := 6, ground := Ground.data }], guard := none }) (v := ?_) rfl (by kernel_rfl) (by kernel_rfl) (by kernel_rfl) (fun _ _ _ h => h) (Or.inl ⟨by rfl, ?_⟩) (by assumption) ?_
  rotate_left
  · intro wz hSw
    try dsimp only at hSw
    go_simp
    try with_reducible rfl
  try simp only [Act.put, List.setIfInBounds_toArray, List.set_cons_zero, List.set_cons_succ]
  refine wpAnyH_take (i := 8) (oi := { dst := some 12, op := Op.binOp BinOp.eql 5 (Operand.tmp 11) (Operand.const (Value.int IntKind.u8 0)) 5, type := 4, pos := "bloom.go:72", after := #[{ on := 7, ground := Ground.data }], guard := none }) (v := ?_) rfl (by kernel_rfl) (by kernel_rfl) (by kernel_rfl) (fun _ _ _ h => h) (Or.inl ⟨by rfl, ?_⟩) (by assumption) ?_
  rotate_left
  · intro wz hSw
    try dsimp only at hSw
    go_simp
    try with_reducible rfl
  try simp only [Act.put, List.setIfInBounds_toArray, List.set_cons_zero, List.set_cons_succ]
  refine wpAnyH_take (i := 9) (oi := { dst := some 3, op := Op.assign (Operand.tmp 12), type := 4, pos := "bloom.go:72", after := #[{ on := 8, ground := Ground.data }, { on := 6, ground := Ground.chain }, { on := 0, ground := Ground.phase }, { on := 1, ground := Ground.phase }, { on := 2, ground := Ground.phase }, { on := 3, ground := Ground.phase }, { on := 4, ground := Ground.phase }, { on := 5, ground := Ground.phase }, { on := 6, ground := Ground.phase }, { on := 7, ground := Ground.phase }, { on := 8, ground := Ground.phase }], guard := none }) (v := ?_) rfl (by kernel_rfl) (by kernel_rfl) (by kernel_rfl) (fun _ _ _ h => h) (Or.inl ⟨by rfl, ?_⟩) (by assumption) ?_
  rotate_left
  · intro wz hSw
    try dsimp only at hSw
    go_simp
    try with_reducible rfl
  try simp only [Act.put, List.setIfInBounds_toArray, List.set_cons_zero, List.set_cons_succ]
  refine wpAnyH_done (by kernel_rfl) ?_ _
  refine NoPanic.normal ?_
  go_wp2
  go_ret
  exact ⟨rfl, (Below.refl _ _).drew⟩

set_option maxRecDepth 100000 in
set_option maxHeartbeats 1000000 in
theorem idx3_none (f : FuncId) (eg : ∀ args w, (callFunc f args).run Try.prog w = .ok (.enter f args) w) (c : Value) (gu cu : Nat) (q : Nat → Int) (w : World) (hu : gu < w.heap.size) (_hcu : 3 ≤ cu)
    (hc : ∀ j, j < 3 → w.cell? ⟨gu, j, none⟩ = some (.int .i64 (q j)))
    (hp : ∀ j, j < 3 → ∀ W, Below w.heap.size w W → Calls Try.prog f #[.int .i64 (q j), c] W fun e W' => e = .returned (.bool false) ∧ Below W.heap.size W W') :
    Calls Try.prog 12 #[.slice (some ⟨gu, 0, none⟩) 3 cu, .func (Fn.func f) #[] #[c]] w fun e w' => e = .returned (.int .i64 (-1)) ∧ Below w.heap.size w w' := by
  have HC : Hid (∀ j, j < 3 → w.cell? ⟨gu, j, none⟩ = some (.int .i64 (q j))) := hc
  have HP : Hid (∀ j, j < 3 → ∀ W, Below w.heap.size w W → Calls Try.prog f #[.int .i64 (q j), c] W fun e W' => e = .returned (.bool false) ∧ Below W.heap.size W W') := hp
  clear hc hp
  go_enter Try.func12, Try.ntmps12
  go_wp2_with fail
  go_loopw [8] (fun i wr => ∃ k : Nat, k ≤ 3 ∧ i = .int .i64 k ∧ Below w.heap.size w wr) (fun i _ => 3 - (RowKit.intOf i).toNat)
  case atStart => exact ⟨0, Nat.zero_le _, rfl, Below.refl _ _⟩
  case round =>
    obtain ⟨k, hk, rfl, hbel⟩ := hrel
    by_cases hlt : k < 3
    · have x0 : wr.cell? ⟨gu, k, none⟩ = some (.int .i64 (q k)) := by rw [hbel.cell (p := ⟨gu, k, none⟩) hu]; exact HC.out k hlt
      have g1 : (k : Int) < 3 := by omega
      have E := HP.out k hlt wr hbel
      obtain ⟨z, hz⟩ : ∃ z : Int, q k = z := ⟨_, rfl⟩
      rw [hz] at x0 E
      clear hz hk
      have HK : Hid (k < 3) := hlt
      have HB : Hid (Below w.heap.size w wr) := hbel
      clear hbel hlt
      go_wp2_with fail
      go_fit E
      rintro e w2 ⟨rfl, b2⟩
      have HB2 : Hid (Below w.heap.size w w2) := HB.out.trans (b2.mono HB.out.size)
      clear b2 E
      go_wp2
      go_roundw
      case rel => exact ⟨k + 1, HK.out, by go_num, HB2.out⟩
      case measure => simp [RowKit.intOf]; have := HK.out; omega
    · have hke : k = 3 := by omega
      subst hke
      have HB : Hid (Below w.heap.size w wr) := hbel
      clear hlt hk hbel
      go_wp2
      go_ret
      exact ⟨rfl, HB.out⟩

theorem contains3_none (f : FuncId) (eg : ∀ args w, (callFunc f args).run Try.prog w = .ok (.enter f args) w) (c : Value) (gu cu : Nat) (q : Nat → Int) (w : World) (hu : gu < w.heap.size) (hcu : 3 ≤ cu)
    (hc : ∀ j, j < 3 → w.cell? ⟨gu, j, none⟩ = some (.int .i64 (q j)))
    (hp : ∀ j, j < 3 → ∀ W, Below w.heap.size w W → Calls Try.prog f #[.int .i64 (q j), c] W fun e W' => e = .returned (.bool false) ∧ Below W.heap.size W W') :
    Calls Try.prog 10 #[.slice (some ⟨gu, 0, none⟩) 3 cu, .func (Fn.func f) #[] #[c]] w fun e w' => e = .returned (.bool false) ∧ Below w.heap.size w w' := by
  have E := idx3_none f eg c gu cu q w hu hcu hc hp
  clear hc hp
  go_enter Try.func10, Try.ntmps10
  go_wp2_with fail
  go_fit E
  rintro e w1 ⟨rfl, b1⟩
  go_wp2
  go_ret
  exact ⟨rfl, b1⟩

set_option maxRecDepth 100000 in
set_option maxHeartbeats 2000000 in
theorem has_yes (g n : Nat) (F : List UInt8) (r : BRef) (B : Nat) (w : World) (hn : 1 ≤ n ∧ n ≤ 512) (hF : F.length = n) (R : Row B (.slice (some ⟨g, 0, none⟩) n n) F w) (h : allB F (8 * (n : Int)) r) :
    Calls Try.prog 5 #[.slice (some ⟨g, 0, none⟩) n n, .agg #[.int .i64 r.1, .int .i64 r.2]] w fun e w' => e = .returned (.tuple #[.bool true, .nilIface]) ∧ Below w.heap.size w w' := by
  obtain ⟨ra, rs⟩ := r
  have hw : widB (8 * (n : Int)) = true := by simp [widB]; omega
  obtain ⟨ho, hall⟩ := h
  simp only at ho hall ⊢
  have hgl : g < w.heap.size := (R.lt g rfl).2
  have R2 : w.ownsRow B 5 1 (.slice (some ⟨g, 0, none⟩) n n) n (Lib.byteCells F) := by
    have h := R
    unfold Row at h
    rw [hF] at h
    exact h
  have hcell : ∀ k y, F[k]? = some y → w.cell? ⟨g, k, none⟩ = some (.int .u8 y.toNat) := fun k y hy => by
    have hk : k < n := by rw [← hF]; exact (List.getElem?_eq_some_iff.1 hy).1
    rw [R2.cellAt k (by omega)]
    simp [Lib.byteCells, hy]
  have HW1 := ((Below.refl w.heap.size w).alloc (Nat.le_refl _) (.cells #[.slice (some ⟨g, 0, none⟩) n n] 23)).alloc (by simp) (.cells #[.int .i64 ra, .int .i64 rs] 29)
  have EP := places_ok ra rs (8 * (n : Int)) ho hw ((w.alloc (.cells #[.slice (some ⟨g, 0, none⟩) n n] 23)).alloc (.cells #[.int .i64 ra, .int .i64 rs] 29))
  have eg : ∀ args w, (callFunc 9 args).run Try.prog w = .ok (.enter 9 args) w := enters_of Try.func9 (by kernel_rfl) rfl
  have n1 : (1 : Int) ≤ n := by omega
  have n2 : (n : Int) ≤ 512 := by omega
  have HCL : Hid (∀ k y, F[k]? = some y → w.cell? ⟨g, k, none⟩ = some (.int .u8 y.toNat)) := hcell
  have HAL : Hid (∀ k ∈ pls ra rs (8 * (n : Int)), hasB F k.toNat) := hall
  clear hcell hall R R2
  go_enter Try.func5, Try.ntmps5
  go_wp2_with fail
  refine Calls.mono EP ?_
  rintro e w3 ⟨u, rfl, RI, b3⟩
  obtain ⟨gu, cu, rfl, hcu, hgu1, hgu2, hgc⟩ := rowI3 RI
  have B3 : Below w.heap.size w w3 := HW1.trans (b3.mono (by simp; omega))
  have c0 : w3.cell? ⟨w.heap.size, 0, none⟩ = some (.slice (some ⟨g, 0, none⟩) n n) := by rw [b3.cell (p := ⟨w.heap.size, 0, none⟩) (by simp; omega)]; simp
  have hws : w.heap.size < w3.heap.size := Nat.lt_of_lt_of_le (by simp; omega) b3.size
  have EC := contains3_none 9 eg (.pointer (some ⟨w.heap.size, 0, none⟩)) gu cu (fun j => plc ra rs (8 * (n : Int)) j) w3 hgu2 hcu (fun j hj => by
      rw [hgc j hj]
      match j, hj with
      | 0, _ => rfl
      | 1, _ => rfl
      | 2, _ => rfl) (fun j hj W hW => by
      have hpr := plc_range ra rs (8 * (n : Int)) (by omega) j
      obtain ⟨kk, hkk⟩ : ∃ kk : Nat, plc ra rs (8 * (n : Int)) j = kk := ⟨(plc ra rs (8 * (n : Int)) j).toNat, by omega⟩
      obtain ⟨y, hy, ht⟩ := HAL.out (plc ra rs (8 * (n : Int)) j) (by
        match j, hj with
        | 0, _ => simp [pls]
        | 1, _ => simp [pls]
        | 2, _ => simp [pls])
      simp only [hkk] at hpr ⊢
      rw [hkk] at hy ht
      have e : (kk : Int).toNat = kk := rfl
      rw [e] at hy ht
      exact has1_any g n kk w.heap.size y (by omega) (by omega) ht W (by rw [hW.cell (p := ⟨w.heap.size, 0, none⟩) hws]; exact c0)
        (by rw [hW.cell (p := ⟨g, kk / 8, none⟩) (by have := B3.size; show g < _; omega), B3.cell (p := ⟨g, kk / 8, none⟩) hgl]; exact HCL.out _ _ hy))
  have HB3 : Hid (Below w.heap.size w w3) := B3
  clear RI b3 hgc EP HW1 B3
  go_wp2_with fail
  go_fit EC
  rintro e w4 ⟨rfl, b4⟩
  have HB4 : Hid (Below w.heap.size w w4) := HB3.out.trans (b4.mono HB3.out.size)
  clear b4 EC
  go_wp2
  go_returns
  exact ⟨rfl, HB4.out⟩
end Go.Proofs.Ytegiaecnikljkaa
