/-
  What is proved: bookref3's reader: a text in quotes, of so many bytes at most, or a fault.
  Conditions: the reader lies in its box, stands within its text, and nothing was wrong so far.
-/
import Derived.Test.YtnmdhbejjjmdeaaGreatDoorJH1
import Derived.Test.YtnmdhbejjjmdeaaGreatDoorRUnquote
namespace Go.Proofs.YtnmdhbejjjmdeaaGreatDoor
open Go.RowKit Go.Sort

/-- What quoted leaves. -/
def QuotedHP (w : World) (p : Nat) (s : ByteArray) (k m most : Nat) (e : Ending) (w' : World) : Prop :=
  (∃ t n, qtd most (lft s k) = some (t, n) ∧ e = .returned (.string ⟨t.toArray⟩) ∧ PB w' p s (k + n) m 0 0 ∧ k + n ≤ s.size ∧ Rk p w w') ∨ (qtd most (lft s k) = none ∧ e = .returned (.string ⟨#[]⟩) ∧ PB w' p s k m k 2 ∧ Rk p w w')
set_option maxRecDepth 100000 in
set_option maxHeartbeats 4000000 in
theorem quotedH_any (p : Nat) (s : ByteArray) (k m most : Nat) (w : World) (h : PB w p s k m 0 0) (hk : k ≤ s.size) (hs : s.size ≤ 60000) (hm : most ≤ 60) :
    Calls Tryz.prog 15 #[.pointer (some ⟨p, 0, none⟩), .int .i64 (most : Int)] w fun e w' => QuotedHP w p s k m most e w' := by
  have E2 := fun W => rUnquote_any (s.extract k s.size) W (by rw [ByteArray.size_extract]; omega)
  rw [lft_ex] at E2
  obtain ⟨post, hpost⟩ : ∃ post, post = QuotedHP w p s k m most := ⟨_, rfl⟩
  rw [← hpost]
  have HPO : Hid (post = QuotedHP w p s k m most) := hpost
  have HR : Hid (PB w p s k m 0 0 ∧ k ≤ s.size ∧ s.size ≤ 60000) := ⟨h, hk, hs⟩
  have c0 : w.cell? ⟨p, 0, none⟩ = some (.string s) := Lib.cell_of_heap h 0
  have c1 : w.cell? ⟨p, 1, none⟩ = some (.int .i64 (k : Int)) := Lib.cell_of_heap h 1
  have g0 : (k : Int) ≤ s.size := by omega
  have g9 : (0 : Int) ≤ (k : Int) := by omega
  obtain ⟨sx, hsx⟩ : ∃ sx, s.extract k s.size = sx := ⟨_, rfl⟩
  rw [hsx] at E2
  have HSX : Hid (s.extract k s.size = sx) := hsx
  clear hpost h hk hs hsx
  have HM : Hid (most ≤ 60) := hm
  clear hm
  have HKEEP : Hid (∀ W, Below w.drew.heap.size w.drew W → W.cell? ⟨p, 0, none⟩ = some (.string s) ∧ W.cell? ⟨p, 1, none⟩ = some (.int .i64 (k : Int))) := by
    intro W hW
    have h9 : PB w.drew p s k m 0 0 := HR.out.1
    have h8 := h9.below hW
    exact ⟨Lib.cell_of_heap h8 0, Lib.cell_of_heap h8 1⟩
  obtain ⟨q, hq⟩ : ∃ q, unq (lft s k) = q := ⟨_, rfl⟩
  rw [hq] at E2
  have HQ : Hid (unq (lft s k) = q) := hq
  clear hq
  obtain ⟨qv, hqv⟩ : ∃ qv, runqV q = qv := ⟨_, rfl⟩
  rw [hqv] at E2
  have hqs : ∃ a0 a1 a2, qv = .tuple #[.string a0, .int .i64 a1, .bool a2] := by
    rw [← hqv]
    cases q with
    | none => exact ⟨_, _, _, rfl⟩
    | some x => exact ⟨_, _, _, rfl⟩
  obtain ⟨a0, a1, a2, rfl⟩ := hqs
  have HQV : Hid (runqV q = .tuple #[.string a0, .int .i64 a1, .bool a2]) := hqv
  clear hqv
  go_enter Tryz.func15, Tryz.ntmps15
  go_wp2_with fail
  refine wp_region_noPanic ?_
  refine wp_region_held_drew (S := fun W => W.cell? ⟨p, 0, none⟩ = some (.string s) ∧ W.cell? ⟨p, 1, none⟩ = some (.int .i64 (k : Int))) (by kernel_rfl) (⟨c0, c1⟩) (fun hHeld => ?_)
  refine wpAnyH_take (i := 0) (oi := { dst := some 9, op := Op.move (Operand.tmp 0), type := 38, pos := "json.go:84", after := #[], guard := none }) (v := ?_) rfl (by kernel_rfl) (by kernel_rfl) (by kernel_rfl) (fun _ _ _ h => h) (Or.inl ⟨by rfl, ?_⟩) (by assumption) ?_
  rotate_left
  · intro wz hSw
    try dsimp only at hSw
    go_simp
    try with_reducible rfl
  try simp only [Act.put, List.setIfInBounds_toArray, List.set_cons_zero, List.set_cons_succ]
  refine wpAnyH_take (i := 1) (oi := { dst := some 10, op := Op.nilCheck (Operand.tmp 9), type := 0, pos := "json.go:84", after := #[{ on := 0, ground := Ground.data }], guard := none }) (v := ?_) rfl (by kernel_rfl) (by kernel_rfl) (by kernel_rfl) (fun _ _ _ h => h) (Or.inl ⟨by rfl, ?_⟩) (by assumption) ?_
  rotate_left
  · intro wz hSw
    try dsimp only at hSw
    go_simp
    try with_reducible rfl
  try simp only [Act.put, List.setIfInBounds_toArray, List.set_cons_zero, List.set_cons_succ]
  refine wpAnyH_take (i := 2) (oi := { dst := some 11, op := Op.fieldAddr 40 (Operand.tmp 10) 0, type := 0, pos := "json.go:84", after := #[{ on := 1, ground := Ground.data }], guard := none }) (v := ?_) rfl (by kernel_rfl) (by kernel_rfl) (by kernel_rfl) (fun _ _ _ h => h) (Or.inl ⟨by rfl, ?_⟩) (by assumption) ?_
  rotate_left
  · intro wz hSw
    try dsimp only at hSw
    go_simp
    try with_reducible rfl
  try simp only [Act.put, List.setIfInBounds_toArray, List.set_cons_zero, List.set_cons_succ]
  refine wpAnyH_take (i := 3) (oi := { dst := some 12, op := Op.load 9 (Operand.tmp 11), type := 9, pos := "json.go:84", after := #[{ on := 2, ground := Ground.data }], guard := none }) (v := ?_) rfl (by kernel_rfl) (by kernel_rfl) (by kernel_rfl) (fun _ _ _ h => h) (Or.inl ⟨by rfl, ?_⟩) (by assumption) ?_
  rotate_left
  · intro wz hSw
    try dsimp only at hSw
    go_simp
    try with_reducible rfl
  try simp only [Act.put, List.setIfInBounds_toArray, List.set_cons_zero, List.set_cons_succ]
  refine wpAnyH_take (i := 4) (oi := { dst := some 13, op := Op.move (Operand.tmp 0), type := 38, pos := "json.go:84", after := #[], guard := none }) (v := ?_) rfl (by kernel_rfl) (by kernel_rfl) (by kernel_rfl) (fun _ _ _ h => h) (Or.inl ⟨by rfl, ?_⟩) (by assumption) ?_
  rotate_left
  · intro wz hSw
    try dsimp only at hSw
    go_simp
    try with_reducible rfl
  try simp only [Act.put, List.setIfInBounds_toArray, List.set_cons_zero, List.set_cons_succ]
  refine wpAnyH_take (i := 5) (oi := { dst := some 14, op := Op.nilCheck (Operand.tmp 13), type := 0, pos := "json.go:84", after := #[{ on := 4, ground := Ground.data }], guard := none }) (v := ?_) rfl (by kernel_rfl) (by kernel_rfl) (by kernel_rfl) (fun _ _ _ h => h) (Or.inl ⟨by rfl, ?_⟩) (by assumption) ?_
  rotate_left
  · intro wz hSw
    try dsimp only at hSw
    go_simp
    try with_reducible rfl
  try simp only [Act.put, List.setIfInBounds_toArray, List.set_cons_zero, List.set_cons_succ]
  refine wpAnyH_take (i := 6) (oi := { dst := some 15, op := Op.fieldAddr 40 (Operand.tmp 14) 1, type := 0, pos := "json.go:84", after := #[{ on := 5, ground := Ground.data }], guard := none }) (v := ?_) rfl (by kernel_rfl) (by kernel_rfl) (by kernel_rfl) (fun _ _ _ h => h) (Or.inl ⟨by rfl, ?_⟩) (by assumption) ?_
  rotate_left
  · intro wz hSw
    try dsimp only at hSw
    go_simp
    try with_reducible rfl
  try simp only [Act.put, List.setIfInBounds_toArray, List.set_cons_zero, List.set_cons_succ]
  refine wpAnyH_take (i := 7) (oi := { dst := some 16, op := Op.load 3 (Operand.tmp 15), type := 3, pos := "json.go:84", after := #[{ on := 6, ground := Ground.data }], guard := none }) (v := ?_) rfl (by kernel_rfl) (by kernel_rfl) (by kernel_rfl) (fun _ _ _ h => h) (Or.inl ⟨by rfl, ?_⟩) (by assumption) ?_
  rotate_left
  · intro wz hSw
    try dsimp only at hSw
    go_simp
    try with_reducible rfl
  try simp only [Act.put, List.setIfInBounds_toArray, List.set_cons_zero, List.set_cons_succ]
  refine wpAnyH_take (i := 8) (oi := { dst := some 17, op := Op.slice 9 (Operand.tmp 12) (some (Operand.tmp 16)) none none, type := 9, pos := "json.go:84", after := #[{ on := 3, ground := Ground.data }, { on := 7, ground := Ground.data }], guard := none }) (v := .string sx) rfl (by kernel_rfl) (by kernel_rfl) (by kernel_rfl) (fun _ _ _ h => h) (Or.inl ⟨by rfl, ?_⟩) (by assumption) ?_
  · intro wz hSw
    try dsimp only at hSw
    rw [← HSX.out]
    go_simp
  try simp only [Act.put, List.setIfInBounds_toArray, List.set_cons_zero, List.set_cons_succ]
  refine wpAnyH_ready (rs := [9]) (by kernel_rfl) (by simp) (AllReadyH.cons (o := { dst := some 18, op := Op.call { callee := Callee.value (Operand.func 30), args := #[Operand.tmp 17], argTypes := #[9] }, type := 65, pos := "json.go:84", after := #[{ on := 8, ground := Ground.data }], guard := none }) rfl (fun K hK => ?_) AllReadyH.nil)
  go_simp
  go_at_call 30
  refine Calls.mono (E2 _) ?_
  rintro e w9 ⟨rfl, b2⟩
  go_wp2_with fail
  refine hK.out _ _ (HKEEP.out _ b2) (fun hHeld9 => ?_)
  clear hK K
  try simp only [Act.put, List.setIfInBounds_toArray, List.set_cons_zero, List.set_cons_succ]
  refine wpAnyH_take (i := 10) (oi := { dst := some 8, op := Op.move (Operand.tmp 18), type := 65, pos := "json.go:84", after := #[{ on := 9, ground := Ground.data }], guard := none }) (v := ?_) rfl (by kernel_rfl) (by kernel_rfl) (by kernel_rfl) (fun _ _ _ h => h) (Or.inl ⟨by rfl, ?_⟩) (by assumption) ?_
  rotate_left
  · intro wz hSw
    try dsimp only at hSw
    go_simp
    try with_reducible rfl
  try simp only [Act.put, List.setIfInBounds_toArray, List.set_cons_zero, List.set_cons_succ]
  refine wpAnyH_take (i := 11) (oi := { dst := some 19, op := Op.extract (Operand.tmp 8) 0, type := 9, pos := "json.go:84", after := #[{ on := 10, ground := Ground.data }], guard := none }) (v := ?_) rfl (by kernel_rfl) (by kernel_rfl) (by kernel_rfl) (fun _ _ _ h => h) (Or.inl ⟨by rfl, ?_⟩) (by assumption) ?_
  rotate_left
  · intro wz hSw
    try dsimp only at hSw
    go_simp
    try with_reducible rfl
  try simp only [Act.put, List.setIfInBounds_toArray, List.set_cons_zero, List.set_cons_succ]
  refine wpAnyH_take (i := 14) (oi := { dst := some 5, op := Op.assign (Operand.tmp 19), type := 9, pos := "json.go:84", after := #[{ on := 11, ground := Ground.data }, { on := 9, ground := Ground.chain }, { on := 0, ground := Ground.phase }, { on := 1, ground := Ground.phase }, { on := 2, ground := Ground.phase }, { on := 3, ground := Ground.phase }, { on := 4, ground := Ground.phase }, { on := 5, ground := Ground.phase }, { on := 6, ground := Ground.phase }, { on := 7, ground := Ground.phase }, { on := 8, ground := Ground.phase }, { on := 9, ground := Ground.phase }, { on := 10, ground := Ground.phase }, { on := 11, ground := Ground.phase }, { on := 12, ground := Ground.textOnly Departure.lateStores }, { on := 13, ground := Ground.textOnly Departure.lateStores }], guard := none }) (v := ?_) rfl (by kernel_rfl) (by kernel_rfl) (by kernel_rfl) (fun _ _ _ h => h) (Or.inl ⟨by rfl, ?_⟩) (by assumption) ?_
  rotate_left
  · intro wz hSw
    try dsimp only at hSw
    go_simp
    try with_reducible rfl
  try simp only [Act.put, List.setIfInBounds_toArray, List.set_cons_zero, List.set_cons_succ]
  refine wpAnyH_take (i := 12) (oi := { dst := some 20, op := Op.extract (Operand.tmp 8) 1, type := 3, pos := "json.go:84", after := #[{ on := 10, ground := Ground.data }, { on := 14, ground := Ground.gcOnly Departure.lateStores }], guard := none }) (v := ?_) rfl (by kernel_rfl) (by kernel_rfl) (by kernel_rfl) (fun _ _ _ h => h) (Or.inl ⟨by rfl, ?_⟩) (by assumption) ?_
  rotate_left
  · intro wz hSw
    try dsimp only at hSw
    go_simp
    try with_reducible rfl
  try simp only [Act.put, List.setIfInBounds_toArray, List.set_cons_zero, List.set_cons_succ]
  refine wpAnyH_take (i := 15) (oi := { dst := some 6, op := Op.assign (Operand.tmp 20), type := 3, pos := "json.go:84", after := #[{ on := 12, ground := Ground.data }, { on := 14, ground := Ground.chain }, { on := 0, ground := Ground.phase }, { on := 1, ground := Ground.phase }, { on := 2, ground := Ground.phase }, { on := 3, ground := Ground.phase }, { on := 4, ground := Ground.phase }, { on := 5, ground := Ground.phase }, { on := 6, ground := Ground.phase }, { on := 7, ground := Ground.phase }, { on := 8, ground := Ground.phase }, { on := 9, ground := Ground.phase }, { on := 10, ground := Ground.phase }, { on := 11, ground := Ground.phase }, { on := 12, ground := Ground.phase }, { on := 13, ground := Ground.textOnly Departure.lateStores }, { on := 14, ground := Ground.phase }], guard := none }) (v := ?_) rfl (by kernel_rfl) (by kernel_rfl) (by kernel_rfl) (fun _ _ _ h => h) (Or.inl ⟨by rfl, ?_⟩) (by assumption) ?_
  rotate_left
  · intro wz hSw
    try dsimp only at hSw
    go_simp
    try with_reducible rfl
  try simp only [Act.put, List.setIfInBounds_toArray, List.set_cons_zero, List.set_cons_succ]
  refine wpAnyH_take (i := 13) (oi := { dst := some 21, op := Op.extract (Operand.tmp 8) 2, type := 4, pos := "json.go:84", after := #[{ on := 10, ground := Ground.data }, { on := 15, ground := Ground.gcOnly Departure.lateStores }], guard := none }) (v := ?_) rfl (by kernel_rfl) (by kernel_rfl) (by kernel_rfl) (fun _ _ _ h => h) (Or.inl ⟨by rfl, ?_⟩) (by assumption) ?_
  rotate_left
  · intro wz hSw
    try dsimp only at hSw
    go_simp
    try with_reducible rfl
  try simp only [Act.put, List.setIfInBounds_toArray, List.set_cons_zero, List.set_cons_succ]
  refine wpAnyH_take (i := 16) (oi := { dst := some 7, op := Op.assign (Operand.tmp 21), type := 4, pos := "json.go:84", after := #[{ on := 13, ground := Ground.data }, { on := 15, ground := Ground.chain }, { on := 0, ground := Ground.phase }, { on := 1, ground := Ground.phase }, { on := 2, ground := Ground.phase }, { on := 3, ground := Ground.phase }, { on := 4, ground := Ground.phase }, { on := 5, ground := Ground.phase }, { on := 6, ground := Ground.phase }, { on := 7, ground := Ground.phase }, { on := 8, ground := Ground.phase }, { on := 9, ground := Ground.phase }, { on := 10, ground := Ground.phase }, { on := 11, ground := Ground.phase }, { on := 12, ground := Ground.phase }, { on := 13, ground := Ground.phase }, { on := 14, ground := Ground.phase }, { on := 15, ground := Ground.phase }], guard := none }) (v := ?_) rfl (by kernel_rfl) (by kernel_rfl) (by kernel_rfl) (fun _ _ _ h => h) (Or.inl ⟨by rfl, ?_⟩) (by assumption) ?_
  rotate_left
  · intro wz hSw
    try dsimp only at hSw
    go_simp
    try with_reducible rfl
  try simp only [Act.put, List.setIfInBounds_toArray, List.set_cons_zero, List.set_cons_succ]
  refine wpAnyH_done (by kernel_rfl) ?_ _
  refine NoPanic.normal ?_
  clear hHeld hHeld9 E2 HKEEP c0 c1 HSX
  have HB2 : Hid (Below w.heap.size w w9) := (Below.refl _ _).drew.trans b2
  have HR2 : Hid (PB w9 p s k m 0 0) := HR.out.1.below HB2.out
  clear b2
  have c1 : w9.cell? ⟨p, 1, none⟩ = some (.int .i64 (k : Int)) := Lib.cell_of_heap HR2.out 1
  have cf := Lib.frozen_of_heap HR2.out
  have EF := failH_any p s k m 0 k 0 2 w9 HR2.out
  simp only [if_true] at EF
  cases q with
  | none =>
    have hqv := HQV.out
    unfold runqV at hqv
    obtain ⟨rfl, rfl, rfl⟩ : a0 = ⟨#[]⟩ ∧ a1 = 0 ∧ a2 = false := by
      simp only [Value.tuple.injEq, Array.mk.injEq, List.cons.injEq, Value.string.injEq, Value.int.injEq, Value.bool.injEq, and_true, true_and] at hqv
      exact ⟨hqv.1.symm, hqv.2.1.symm, hqv.2.2.symm⟩
    clear hqv HQV
    go_wp2_with fail
    go_fit EF
    rintro e w3 ⟨rfl, hpb, hrk⟩
    have HEND : Hid (post (.returned (.string ⟨#[]⟩)) w3) := by
      show post _ _
      rw [HPO.out]
      exact Or.inr ⟨by unfold qtd; rw [HQ.out]; rfl, rfl, hpb, (Rk.of HB2.out).trans hrk⟩
    clear EF hpb hrk
    go_wp2
    exact HEND.out
  | some x =>
    obtain ⟨t, n⟩ := x
    have hqv := HQV.out
    unfold runqV at hqv
    obtain ⟨rfl, rfl, rfl⟩ : a0 = ⟨t.toArray⟩ ∧ a1 = (n : Int) ∧ a2 = true := by
      simp only [Value.tuple.injEq, Array.mk.injEq, List.cons.injEq, Value.string.injEq, Value.int.injEq, Value.bool.injEq, and_true, true_and] at hqv
      exact ⟨hqv.1.symm, hqv.2.1.symm, hqv.2.2.symm⟩
    clear hqv HQV
    have hsz : (⟨t.toArray⟩ : ByteArray).size = t.length := by simp [ByteArray.size]
    obtain ⟨ts, hts⟩ : ∃ ts : ByteArray, ts = ⟨t.toArray⟩ := ⟨_, rfl⟩
    rw [← hts] at hsz ⊢
    have HTS : Hid (ts = ⟨t.toArray⟩ ∧ ts.size = t.length) := ⟨hts, hsz⟩
    clear hts hsz
    by_cases hl : (most : Int) < ts.size
    · go_wp2_with fail
      go_fit EF
      rintro e w3 ⟨rfl, hpb, hrk⟩
      have HEND : Hid (post (.returned (.string ⟨#[]⟩)) w3) := by
        show post _ _
        rw [HPO.out]
        refine Or.inr ⟨?_, rfl, hpb, (Rk.of HB2.out).trans hrk⟩
        unfold qtd
        rw [HQ.out]
        show (if t.length ≤ most then _ else _) = _
        rw [if_neg (by have := HTS.out.2; omega)]
      clear EF hpb hrk
      go_wp2
      exact HEND.out
    · have hq2 : qtd most (lft s k) = some (t, n) := by
        unfold qtd
        rw [HQ.out]
        show (if t.length ≤ most then _ else _) = _
        rw [if_pos (by have := HTS.out.2; omega)]
      have hb := qtd_back hq2
      obtain ⟨rest, e1, e2⟩ := hb.2
      have hlen : k + n ≤ s.size := by
        have h1 := congrArg List.length e1
        unfold lft at h1
        rw [List.length_drop, List.length_append, Array.length_toList] at h1
        have h2 : s.data.size = s.size := rfl
        have h3 := HR.out.2.1
        omega
      have HEND : Hid (post (.returned (.string ts)) (w9.setCell ⟨p, 1, none⟩ (.int .i64 ((k : Int) + n)))) := by
        show post _ _
        rw [HPO.out]
        refine Or.inl ⟨t, n, hq2, by rw [HTS.out.1], ?_, hlen, (Rk.of HB2.out).trans ⟨rfl, rfl, rfl, by simp, fun b _ hne => Below.heap_setCell _ _ _ _ (by simpa using hne)⟩⟩
        unfold PB
        rw [set_atR HR2.out 1 _]
        simp
      have hbd : k + n ≤ 60000 := by have := HR.out.2.2; omega
      have gk : (k : Int) + n ≤ 60000 := by omega
      clear hb e1 e2 hlen hbd EF hq2
      go_wp2
      exact HEND.out
end Go.Proofs.YtnmdhbejjjmdeaaGreatDoor
