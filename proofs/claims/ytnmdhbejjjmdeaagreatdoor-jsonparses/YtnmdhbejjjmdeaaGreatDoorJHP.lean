/-
  What is proved: bookref3's Parse answers the tree of a text, or the place of its fault, and which.
  Conditions: none.
-/
import Derived.Test.YtnmdhbejjjmdeaaGreatDoorJHT
import Derived.Test.YtnmdhbejjjmdeaaGreatDoorJXParse2
namespace Go.Proofs.YtnmdhbejjjmdeaaGreatDoor
open Go.RowKit Go.Sort

/-- What bookref3's Parse leaves. -/
def HParseP (w : World) (s : ByteArray) (e : Ending) (w' : World) : Prop :=
  ((∃ (k : Nat) (x : Int), e = .returned (.tuple #[tval zU, .int .i64 (k : Int), .int .i64 x]) ∧ x ≠ 0 ∧ prs s = .error (k, x)) ∨
   (∃ u T, e = .returned (.tuple #[tval u, .int .i64 0, .int .i64 0]) ∧ IsTP (fun b => w.heap.size ≤ b) w' (tval u) T ∧ prs s = .ok T)) ∧ Below w.heap.size w w'
theorem oth7 (w : World) {g b : Nat} (hb : b ≠ g) (v0 v1 v2 v3 v4 v5 v6 : Value) :
    (((((((w.setCell ⟨g, 0, none⟩ v0).setCell ⟨g, 1, none⟩ v1).setCell ⟨g, 2, none⟩ v2).setCell ⟨g, 3, none⟩ v3).setCell ⟨g, 4, none⟩ v4).setCell ⟨g, 5, none⟩ v5).setCell ⟨g, 6, none⟩ v6).heap[b]? = w.heap[b]? := by
  rw [Below.heap_setCell _ _ _ _ (by simpa using hb), Below.heap_setCell _ _ _ _ (by simpa using hb), Below.heap_setCell _ _ _ _ (by simpa using hb), Below.heap_setCell _ _ _ _ (by simpa using hb), Below.heap_setCell _ _ _ _ (by simpa using hb), Below.heap_setCell _ _ _ _ (by simpa using hb), Below.heap_setCell _ _ _ _ (by simpa using hb)]
set_option maxRecDepth 100000 in
set_option maxHeartbeats 16000000 in
theorem hparse_any (s : ByteArray) (w : World) :
    Calls Tryz.prog 4 #[.string s] w fun e w' => HParseP w s e w' := by
  obtain ⟨post, hpost⟩ : ∃ post, post = HParseP w s := ⟨_, rfl⟩
  rw [← hpost]
  have HPO : Hid (post = HParseP w s) := hpost
  clear hpost
  by_cases hs : 60000 < s.size
  · have g1 : (60000 : Int) < s.size := by omega
    have HPN : Hid (prs s = .error (0, 4)) := by
      show _ = _
      unfold prs
      rw [if_pos hs]
    clear hs
    go_enter Tryz.func4, Tryz.ntmps4
    go_wp2_with fail
    have HE : Hid ((w.alloc (.cells #[.int .i64 0, .int .i64 0, .string ⟨#[]⟩, .int .i64 0, .int .i64 0, .slice none 0 0, .slice none 0 0] 29)).heap[w.heap.size]? = some (.cells #[.int .i64 0, .int .i64 0, .string ⟨#[]⟩, .int .i64 0, .int .i64 0, .slice none 0 0, .slice none 0 0] 29)) := one_new w _
    have HEND : Hid (post (.returned (.tuple #[tval zU, .int .i64 ((0 : Nat) : Int), .int .i64 4])) (w.alloc (.cells #[.int .i64 0, .int .i64 0, .string ⟨#[]⟩, .int .i64 0, .int .i64 0, .slice none 0 0, .slice none 0 0] 29))) := by
      show post _ _
      rw [HPO.out]
      exact ⟨Or.inl ⟨_, _, rfl, by decide, HPN.out⟩, (Below.refl _ _).alloc (Nat.le_refl _) _⟩
    generalize w.alloc (.cells #[.int .i64 0, .int .i64 0, .string ⟨#[]⟩, .int .i64 0, .int .i64 0, .slice none 0 0, .slice none 0 0] 29) = W7 at *
    have q0 : W7.cell? ⟨w.heap.size, 0, none⟩ = some (.int .i64 0) := Lib.cell_of_heap HE.out 0
    have q1 : W7.cell? ⟨w.heap.size, 1, none⟩ = some (.int .i64 0) := Lib.cell_of_heap HE.out 1
    have q2 : W7.cell? ⟨w.heap.size, 2, none⟩ = some (.string ⟨#[]⟩) := Lib.cell_of_heap HE.out 2
    have q3 : W7.cell? ⟨w.heap.size, 3, none⟩ = some (.int .i64 0) := Lib.cell_of_heap HE.out 3
    have q4 : W7.cell? ⟨w.heap.size, 4, none⟩ = some (.int .i64 0) := Lib.cell_of_heap HE.out 4
    have q5 : W7.cell? ⟨w.heap.size, 5, none⟩ = some (.slice none 0 0) := Lib.cell_of_heap HE.out 5
    have q6 : W7.cell? ⟨w.heap.size, 6, none⟩ = some (.slice none 0 0) := Lib.cell_of_heap HE.out 6
    exact bodyPost_ret (v := .tuple #[tval zU, .int .i64 ((0 : Nat) : Int), .int .i64 4]) (by simp [tval, zU, results, Tryz.results4, go_sem, q0, q1, q2, q3, q4, q5, q6]) rfl (HEND.out)
  · have g1 : ¬ (60000 : Int) < s.size := by omega
    have HS : Hid (s.size ≤ 60000) := by show _ ≤ _; omega
    clear hs
    have b1 := (Below.refl w.heap.size w).alloc (Nat.le_refl _) (.cells #[.int .i64 0, .int .i64 0, .string ⟨#[]⟩, .int .i64 0, .int .i64 0, .slice none 0 0, .slice none 0 0] 29)
    have b2 : Below (w.heap.size + 1) (w.alloc (.cells #[.int .i64 0, .int .i64 0, .string ⟨#[]⟩, .int .i64 0, .int .i64 0, .slice none 0 0, .slice none 0 0] 29)) ((w.alloc (.cells #[.int .i64 0, .int .i64 0, .string ⟨#[]⟩, .int .i64 0, .int .i64 0, .slice none 0 0, .slice none 0 0] 29)).alloc (.cells #[.string s, .int .i64 0, .int .i64 0, .int .i64 0, .int .i64 0] 40)) := (Below.refl _ _).alloc (by rw [sz_new]; omega) _
    have HW : Hid (PB ((w.alloc (.cells #[.int .i64 0, .int .i64 0, .string ⟨#[]⟩, .int .i64 0, .int .i64 0, .slice none 0 0, .slice none 0 0] 29)).alloc (.cells #[.string s, .int .i64 0, .int .i64 0, .int .i64 0, .int .i64 0] 40)) (w.heap.size + 1) s 0 0 0 0 ∧ ((w.alloc (.cells #[.int .i64 0, .int .i64 0, .string ⟨#[]⟩, .int .i64 0, .int .i64 0, .slice none 0 0, .slice none 0 0] 29)).alloc (.cells #[.string s, .int .i64 0, .int .i64 0, .int .i64 0, .int .i64 0] 40)).heap[w.heap.size]? = some (.cells #[.int .i64 0, .int .i64 0, .string ⟨#[]⟩, .int .i64 0, .int .i64 0, .slice none 0 0, .slice none 0 0] 29) ∧ Below w.heap.size w ((w.alloc (.cells #[.int .i64 0, .int .i64 0, .string ⟨#[]⟩, .int .i64 0, .int .i64 0, .slice none 0 0, .slice none 0 0] 29)).alloc (.cells #[.string s, .int .i64 0, .int .i64 0, .int .i64 0, .int .i64 0] 40)) ∧ ((w.alloc (.cells #[.int .i64 0, .int .i64 0, .string ⟨#[]⟩, .int .i64 0, .int .i64 0, .slice none 0 0, .slice none 0 0] 29)).alloc (.cells #[.string s, .int .i64 0, .int .i64 0, .int .i64 0, .int .i64 0] 40)).heap.size = w.heap.size + 2) := ⟨by
      have e1 := one_new (w.alloc (.cells #[.int .i64 0, .int .i64 0, .string ⟨#[]⟩, .int .i64 0, .int .i64 0, .slice none 0 0, .slice none 0 0] 29)) (.cells #[.string s, .int .i64 0, .int .i64 0, .int .i64 0, .int .i64 0] 40)
      rw [sz_new] at e1
      exact e1, by rw [b2.block _ (by omega)]; exact one_new w _, b1.trans (b2.mono (by omega)), by rw [sz_new, sz_new]⟩
    have ET := treeH_all (p := w.heap.size + 1) HS.out (s.size + 1) 0 0 ((w.alloc (.cells #[.int .i64 0, .int .i64 0, .string ⟨#[]⟩, .int .i64 0, .int .i64 0, .slice none 0 0, .slice none 0 0] 29)).alloc (.cells #[.string s, .int .i64 0, .int .i64 0, .int .i64 0, .int .i64 0] 40)) (by omega) HW.out.1 (Nat.zero_le _) (by omega)
    clear b1 b2
    go_enter Tryz.func4, Tryz.ntmps4
    go_wp2_with fail
    refine Calls.mono ET ?_
    rintro e w3 hT
    clear ET g1
    rcases hT with ⟨u, T, k', rfl, hI, hF, hm4, hlt, hle, hpb, hrk⟩ | ⟨u, k2, m2, kf, fe, rfl, hsl, hno, hfe, hpb, hrk⟩
    · obtain ⟨yk, yn, yt, yo, ya, a1, n1, d1, a2, n2, d2, rfl⟩ := slU_parts (slU_of hI)
      have hr3 : w3.heap[w.heap.size]? = some (.cells #[.int .i64 0, .int .i64 0, .string ⟨#[]⟩, .int .i64 0, .int .i64 0, .slice none 0 0, .slice none 0 0] 29) := (hrk.block _ (by have := HW.out.2.2.2; omega) (by omega)).trans HW.out.2.1
      have hb3 : Below w.heap.size w w3 := hrk.low (by omega) HW.out.2.2.1
      have b4 : Below w3.heap.size w3 (w3.alloc (.cells #[.int .i64 yk, .int .i64 yn, .string yt, .int .i64 yo, .int .i64 ya, .slice a1 n1 d1, .slice a2 n2 d2] 29)) := (Below.refl _ _).alloc (Nat.le_refl _) _
      have HR : Hid ((w3.alloc (.cells #[.int .i64 yk, .int .i64 yn, .string yt, .int .i64 yo, .int .i64 ya, .slice a1 n1 d1, .slice a2 n2 d2] 29)).heap[w.heap.size]? = some (.cells #[.int .i64 0, .int .i64 0, .string ⟨#[]⟩, .int .i64 0, .int .i64 0, .slice none 0 0, .slice none 0 0] 29)) := (b4.block _ (lt_of_heap hr3)).trans hr3
      have HBL : Hid (Below w.heap.size w (w3.alloc (.cells #[.int .i64 yk, .int .i64 yn, .string yt, .int .i64 yo, .int .i64 ya, .slice a1 n1 d1, .slice a2 n2 d2] 29))) := hb3.trans (b4.mono hb3.size)
      have hpb4 : PB (w3.alloc (.cells #[.int .i64 yk, .int .i64 yn, .string yt, .int .i64 yo, .int .i64 ya, .slice a1 n1 d1, .slice a2 n2 d2] 29)) (w.heap.size + 1) s k' (0 + T.size) 0 0 := hpb.below b4
      have HPB : Hid (PB (w3.alloc (.cells #[.int .i64 yk, .int .i64 yn, .string yt, .int .i64 yo, .int .i64 ya, .slice a1 n1 d1, .slice a2 n2 d2] 29)) (w.heap.size + 1) s k' (0 + T.size) 0 0) := hpb4
      have HN : Hid ((w3.alloc (.cells #[.int .i64 yk, .int .i64 yn, .string yt, .int .i64 yo, .int .i64 ya, .slice a1 n1 d1, .slice a2 n2 d2] 29)).heap[w3.heap.size]? = some (.cells #[.int .i64 yk, .int .i64 yn, .string yt, .int .i64 yo, .int .i64 ya, .slice a1 n1 d1, .slice a2 n2 d2] 29)) := one_new w3 _
      have HXB : Hid (w.heap.size + 2 ≤ w3.heap.size) := by
        have h1 := hrk.size
        rw [HW.out.2.2.2] at h1
        exact h1
      have HI : Hid (IsTP (fun b => w.heap.size + 2 ≤ b) (w3.alloc (.cells #[.int .i64 yk, .int .i64 yn, .string yt, .int .i64 yo, .int .i64 ya, .slice a1 n1 d1, .slice a2 n2 d2] 29)) (tval ((⟨yk, yn, yt, yo, ya⟩, .slice a1 n1 d1, .slice a2 n2 d2) : TV)) T) := hI.move b4.size (fun b _ h => b4.block b h) (fun b hb => by
        have h1 := HW.out.2.2.2
        omega)
      have HF : Hid (rdT (s.size + 1) s 0 0 = .ok (T, k')) := hF
      unfold tval
      dsimp only
      clear hI hF hm4 hlt hle hpb hrk HW b4 hr3 hb3 hpb4
      go_upto_region 5 with fail
      obtain ⟨xb, hxb⟩ : ∃ xb, w3.heap.size = xb := ⟨_, rfl⟩
      rw [hxb] at HN HXB ⊢
      generalize (w3.alloc (.cells #[.int .i64 yk, .int .i64 yn, .string yt, .int .i64 yo, .int .i64 ya, .slice a1 n1 d1, .slice a2 n2 d2] 29)) = W5 at *
      clear hxb
      have c1 : W5.cell? ⟨w.heap.size + 1, 1, none⟩ = some (.int .i64 (k' : Int)) := Lib.cell_of_heap HPB.out 1
      have c4 : W5.cell? ⟨w.heap.size + 1, 4, none⟩ = some (.int .i64 0) := Lib.cell_of_heap HPB.out 4
      by_cases hlt : k' < s.size
      · have g2 : (k' : Int) < s.size := by omega
        have HPN : Hid (prs s = .error (k', 2) ∧ (2 : Int) ≠ 0) := ⟨prs_more HS.out HF.out hlt, by decide⟩
        clear hlt
        have EF := failH_any (w.heap.size + 1) s k' (0 + T.size) 0 k' 0 2 W5 HPB.out
        simp only [if_true] at EF
        go_wp2_with fail
        go_fit EF
        rintro e wf ⟨rfl, hpbf, hrkf⟩
        clear EF c1 c4 g2
        have HPBf : Hid (PB wf (w.heap.size + 1) s k' (0 + T.size) k' 2) := hpbf
        have HRf : Hid (wf.heap[w.heap.size]? = some (.cells #[.int .i64 0, .int .i64 0, .string ⟨#[]⟩, .int .i64 0, .int .i64 0, .slice none 0 0, .slice none 0 0] 29)) := (hrkf.block _ (lt_of_heap HR.out) (by omega)).trans HR.out
        have HBf : Hid (Below w.heap.size w wf) := hrkf.low (by omega) HBL.out
        clear hpbf hrkf HPB HR HBL HN HI HXB HF
        have HPB := HPBf
        have HR := HRf
        have HBL := HBf
        clear HPBf HRf HBf
        have c3 : wf.cell? ⟨w.heap.size + 1, 3, none⟩ = some (.int .i64 (k' : Int)) := Lib.cell_of_heap HPB.out 3
        have c4 : wf.cell? ⟨w.heap.size + 1, 4, none⟩ = some (.int .i64 2) := Lib.cell_of_heap HPB.out 4
        go_upto_region 8 with fail
        have HK : Hid (∀ W9 : World, (∀ b, b ≠ w.heap.size → W9.heap[b]? = wf.heap[b]?) → W9.cell? ⟨w.heap.size + 1, 3, none⟩ = some (.int .i64 (k' : Int)) ∧ W9.cell? ⟨w.heap.size + 1, 4, none⟩ = some (.int .i64 2)) := fun W9 h9 => ⟨(show W9.cell? _ = _ from Lib.cell_of_heap ((h9 _ (by omega)).trans HPB.out) 3), Lib.cell_of_heap ((h9 _ (by omega)).trans HPB.out) 4⟩
        have HKC : Hid (∀ b, b ≠ w.heap.size → (((((((wf.drew.setCell ⟨w.heap.size, 0, none⟩ (.int .i64 0)).setCell ⟨w.heap.size, 1, none⟩ (.int .i64 0)).setCell ⟨w.heap.size, 2, none⟩ (.string ⟨#[]⟩)).setCell ⟨w.heap.size, 3, none⟩ (.int .i64 0)).setCell ⟨w.heap.size, 4, none⟩ (.int .i64 0)).setCell ⟨w.heap.size, 5, none⟩ (.slice none 0 0)).setCell ⟨w.heap.size, 6, none⟩ (.slice none 0 0)).heap[b]? = wf.heap[b]?) := fun b hb => oth7 wf.drew hb (.int .i64 0) (.int .i64 0) (.string ⟨#[]⟩) (.int .i64 0) (.int .i64 0) (.slice none 0 0) (.slice none 0 0)
        have HE : Hid ((((((((wf.drew.setCell ⟨w.heap.size, 0, none⟩ (.int .i64 0)).setCell ⟨w.heap.size, 1, none⟩ (.int .i64 0)).setCell ⟨w.heap.size, 2, none⟩ (.string ⟨#[]⟩)).setCell ⟨w.heap.size, 3, none⟩ (.int .i64 0)).setCell ⟨w.heap.size, 4, none⟩ (.int .i64 0)).setCell ⟨w.heap.size, 5, none⟩ (.slice none 0 0)).setCell ⟨w.heap.size, 6, none⟩ (.slice none 0 0)).heap[w.heap.size]? = some (.cells #[.int .i64 0, .int .i64 0, .string ⟨#[]⟩, .int .i64 0, .int .i64 0, .slice none 0 0, .slice none 0 0] 29)) := set7 (w := wf.drew) HR.out (.int .i64 0) (.int .i64 0) (.string ⟨#[]⟩) (.int .i64 0) (.int .i64 0) (.slice none 0 0) (.slice none 0 0)
        have HEB : Hid (Below w.heap.size w (((((((wf.drew.setCell ⟨w.heap.size, 0, none⟩ (.int .i64 0)).setCell ⟨w.heap.size, 1, none⟩ (.int .i64 0)).setCell ⟨w.heap.size, 2, none⟩ (.string ⟨#[]⟩)).setCell ⟨w.heap.size, 3, none⟩ (.int .i64 0)).setCell ⟨w.heap.size, 4, none⟩ (.int .i64 0)).setCell ⟨w.heap.size, 5, none⟩ (.slice none 0 0)).setCell ⟨w.heap.size, 6, none⟩ (.slice none 0 0))) := set7_below (HBL.out.trans (Below.refl _ _).drew) (Nat.le_refl _) (.int .i64 0) (.int .i64 0) (.string ⟨#[]⟩) (.int .i64 0) (.int .i64 0) (.slice none 0 0) (.slice none 0 0)
        refine wp_region_noPanic ?_
        refine wp_region_held_drew (S := fun W => W.cell? ⟨w.heap.size + 1, 3, none⟩ = some (.int .i64 (k' : Int)) ∧ W.cell? ⟨w.heap.size + 1, 4, none⟩ = some (.int .i64 2)) (by kernel_rfl) (⟨c3, c4⟩) (fun hHeld => ?_)
        refine wpAnyH_take (i := 0) (oi := { dst := some 41, op := Op.build 29 #[], type := 29, pos := "json.go:190", after := #[], guard := none }) (v := ?_) rfl (by kernel_rfl) (by kernel_rfl) (by kernel_rfl) (fun _ _ _ h => h) (Or.inl ⟨by rfl, ?_⟩) (by assumption) ?_
        rotate_left
        · intro wz hSw
          try dsimp only at hSw
          go_simp
          try with_reducible rfl
        try simp only [Act.put, List.setIfInBounds_toArray, List.set_cons_zero, List.set_cons_succ]
        refine wpAnyH_take (i := 1) (oi := { dst := some 42, op := Op.move (Operand.tmp 5), type := 38, pos := "json.go:190", after := #[{ on := 9, ground := Ground.gcOnly Departure.lateStores }], guard := none }) (v := ?_) rfl (by kernel_rfl) (by kernel_rfl) (by kernel_rfl) (fun _ _ _ h => h) (Or.inl ⟨by rfl, ?_⟩) (by assumption) ?_
        rotate_left
        · intro wz hSw
          try dsimp only at hSw
          go_simp
          try with_reducible rfl
        try simp only [Act.put, List.setIfInBounds_toArray, List.set_cons_zero, List.set_cons_succ]
        refine wpAnyH_take (i := 2) (oi := { dst := some 43, op := Op.nilCheck (Operand.tmp 42), type := 0, pos := "json.go:190", after := #[{ on := 1, ground := Ground.data }, { on := 9, ground := Ground.gcOnly Departure.lateStores }], guard := none }) (v := ?_) rfl (by kernel_rfl) (by kernel_rfl) (by kernel_rfl) (fun _ _ _ h => h) (Or.inl ⟨by rfl, ?_⟩) (by assumption) ?_
        rotate_left
        · intro wz hSw
          try dsimp only at hSw
          go_simp
          try with_reducible rfl
        try simp only [Act.put, List.setIfInBounds_toArray, List.set_cons_zero, List.set_cons_succ]
        refine wpAnyH_take (i := 3) (oi := { dst := some 44, op := Op.fieldAddr 40 (Operand.tmp 43) 3, type := 0, pos := "json.go:190", after := #[{ on := 2, ground := Ground.data }, { on := 9, ground := Ground.gcOnly Departure.lateStores }], guard := none }) (v := ?_) rfl (by kernel_rfl) (by kernel_rfl) (by kernel_rfl) (fun _ _ _ h => h) (Or.inl ⟨by rfl, ?_⟩) (by assumption) ?_
        rotate_left
        · intro wz hSw
          try dsimp only at hSw
          go_simp
          try with_reducible rfl
        try simp only [Act.put, List.setIfInBounds_toArray, List.set_cons_zero, List.set_cons_succ]
        refine wpAnyH_take (i := 4) (oi := { dst := some 45, op := Op.load 3 (Operand.tmp 44), type := 3, pos := "json.go:190", after := #[{ on := 3, ground := Ground.data }, { on := 9, ground := Ground.gcOnly Departure.lateStores }], guard := none }) (v := ?_) rfl (by kernel_rfl) (by kernel_rfl) (by kernel_rfl) (fun _ _ _ h => h) (Or.inl ⟨by rfl, ?_⟩) (by assumption) ?_
        rotate_left
        · intro wz hSw
          try dsimp only at hSw
          go_simp
          try with_reducible rfl
        try simp only [Act.put, List.setIfInBounds_toArray, List.set_cons_zero, List.set_cons_succ]
        refine wpAnyH_take (i := 5) (oi := { dst := some 46, op := Op.move (Operand.tmp 5), type := 38, pos := "json.go:190", after := #[{ on := 10, ground := Ground.gcOnly Departure.lateStores }], guard := none }) (v := ?_) rfl (by kernel_rfl) (by kernel_rfl) (by kernel_rfl) (fun _ _ _ h => h) (Or.inl ⟨by rfl, ?_⟩) (by assumption) ?_
        rotate_left
        · intro wz hSw
          try dsimp only at hSw
          go_simp
          try with_reducible rfl
        try simp only [Act.put, List.setIfInBounds_toArray, List.set_cons_zero, List.set_cons_succ]
        refine wpAnyH_take (i := 6) (oi := { dst := some 47, op := Op.nilCheck (Operand.tmp 46), type := 0, pos := "json.go:190", after := #[{ on := 5, ground := Ground.data }, { on := 10, ground := Ground.gcOnly Departure.lateStores }], guard := none }) (v := ?_) rfl (by kernel_rfl) (by kernel_rfl) (by kernel_rfl) (fun _ _ _ h => h) (Or.inl ⟨by rfl, ?_⟩) (by assumption) ?_
        rotate_left
        · intro wz hSw
          try dsimp only at hSw
          go_simp
          try with_reducible rfl
        try simp only [Act.put, List.setIfInBounds_toArray, List.set_cons_zero, List.set_cons_succ]
        refine wpAnyH_take (i := 7) (oi := { dst := some 48, op := Op.fieldAddr 40 (Operand.tmp 47) 4, type := 0, pos := "json.go:190", after := #[{ on := 6, ground := Ground.data }, { on := 10, ground := Ground.gcOnly Departure.lateStores }], guard := none }) (v := ?_) rfl (by kernel_rfl) (by kernel_rfl) (by kernel_rfl) (fun _ _ _ h => h) (Or.inl ⟨by rfl, ?_⟩) (by assumption) ?_
        rotate_left
        · intro wz hSw
          try dsimp only at hSw
          go_simp
          try with_reducible rfl
        try simp only [Act.put, List.setIfInBounds_toArray, List.set_cons_zero, List.set_cons_succ]
        refine wpAnyH_take (i := 8) (oi := { dst := some 49, op := Op.load 3 (Operand.tmp 48), type := 3, pos := "json.go:190", after := #[{ on := 7, ground := Ground.data }, { on := 10, ground := Ground.gcOnly Departure.lateStores }], guard := none }) (v := ?_) rfl (by kernel_rfl) (by kernel_rfl) (by kernel_rfl) (fun _ _ _ h => h) (Or.inl ⟨by rfl, ?_⟩) (by assumption) ?_
        rotate_left
        · intro wz hSw
          try dsimp only at hSw
          go_simp
          try with_reducible rfl
        try simp only [Act.put, List.setIfInBounds_toArray, List.set_cons_zero, List.set_cons_succ]
        have HRd : wf.drew.heap[w.heap.size]? = some (.cells #[.int .i64 0, .int .i64 0, .string ⟨#[]⟩, .int .i64 0, .int .i64 0, .slice none 0 0, .slice none 0 0] 29) := HR.out
        generalize wf.drew = WQ at *
        have r0 : WQ.cell? ⟨w.heap.size, 0, none⟩ = some (.int .i64 0) := Lib.cell_of_heap HRd 0
        have r1 : WQ.cell? ⟨w.heap.size, 1, none⟩ = some (.int .i64 0) := Lib.cell_of_heap HRd 1
        have r2 : WQ.cell? ⟨w.heap.size, 2, none⟩ = some (.string ⟨#[]⟩) := Lib.cell_of_heap HRd 2
        have r3 : WQ.cell? ⟨w.heap.size, 3, none⟩ = some (.int .i64 0) := Lib.cell_of_heap HRd 3
        have r4 : WQ.cell? ⟨w.heap.size, 4, none⟩ = some (.int .i64 0) := Lib.cell_of_heap HRd 4
        have r5 : WQ.cell? ⟨w.heap.size, 5, none⟩ = some (.slice none 0 0) := Lib.cell_of_heap HRd 5
        have r6 : WQ.cell? ⟨w.heap.size, 6, none⟩ = some (.slice none 0 0) := Lib.cell_of_heap HRd 6
        have zf := Lib.frozen_of_heap HRd
        clear HRd
        refine wpAnyH_ready (rs := [9]) (by kernel_rfl) (by simp) (AllReadyH.cons (o := { dst := none, op := Op.store 29 (Operand.tmp 2) (Operand.tmp 41), type := 0, pos := "json.go:190", after := #[{ on := 0, ground := Ground.data }, { on := 0, ground := Ground.phase }, { on := 1, ground := Ground.textOnly Departure.lateStores }, { on := 2, ground := Ground.textOnly Departure.lateStores }, { on := 3, ground := Ground.textOnly Departure.lateStores }, { on := 4, ground := Ground.textOnly Departure.lateStores }, { on := 5, ground := Ground.textOnly Departure.lateStores }, { on := 6, ground := Ground.textOnly Departure.lateStores }, { on := 7, ground := Ground.textOnly Departure.lateStores }, { on := 8, ground := Ground.textOnly Departure.lateStores }], guard := none }) rfl (fun K hK => ?_) AllReadyH.nil)
        go_simp
        refine hK.out _ _ (HK.out _ HKC.out) (fun hHeld9 => ?_)
        clear hK K
        try simp only [Act.put, List.setIfInBounds_toArray, List.set_cons_zero, List.set_cons_succ]
        refine wpAnyH_take (i := 10) (oi := { dst := some 3, op := Op.assign (Operand.tmp 45), type := 3, pos := "json.go:190", after := #[{ on := 4, ground := Ground.data }, { on := 9, ground := Ground.chain }, { on := 0, ground := Ground.phase }, { on := 1, ground := Ground.phase }, { on := 2, ground := Ground.phase }, { on := 3, ground := Ground.phase }, { on := 4, ground := Ground.phase }, { on := 5, ground := Ground.textOnly Departure.lateStores }, { on := 6, ground := Ground.textOnly Departure.lateStores }, { on := 7, ground := Ground.textOnly Departure.lateStores }, { on := 8, ground := Ground.textOnly Departure.lateStores }, { on := 9, ground := Ground.phase }], guard := none }) (v := ?_) rfl (by kernel_rfl) (by kernel_rfl) (by kernel_rfl) (fun _ _ _ h => h) (Or.inl ⟨by rfl, ?_⟩) (by assumption) ?_
        rotate_left
        · intro wz hSw
          try dsimp only at hSw
          go_simp
          try with_reducible rfl
        try simp only [Act.put, List.setIfInBounds_toArray, List.set_cons_zero, List.set_cons_succ]
        refine wpAnyH_take (i := 11) (oi := { dst := some 4, op := Op.assign (Operand.tmp 49), type := 3, pos := "json.go:190", after := #[{ on := 8, ground := Ground.data }, { on := 10, ground := Ground.chain }, { on := 0, ground := Ground.phase }, { on := 1, ground := Ground.phase }, { on := 2, ground := Ground.phase }, { on := 3, ground := Ground.phase }, { on := 4, ground := Ground.phase }, { on := 5, ground := Ground.phase }, { on := 6, ground := Ground.phase }, { on := 7, ground := Ground.phase }, { on := 8, ground := Ground.phase }, { on := 9, ground := Ground.phase }, { on := 10, ground := Ground.phase }], guard := none }) (v := ?_) rfl (by kernel_rfl) (by kernel_rfl) (by kernel_rfl) (fun _ _ _ h => h) (Or.inl ⟨by rfl, ?_⟩) (by assumption) ?_
        rotate_left
        · intro wz hSw
          try dsimp only at hSw
          go_simp
          try with_reducible rfl
        try simp only [Act.put, List.setIfInBounds_toArray, List.set_cons_zero, List.set_cons_succ]
        refine wpAnyH_done (by kernel_rfl) ?_ _
        refine NoPanic.normal ?_
        clear hHeld hHeld9 c3 c4 r0 r1 r2 r3 r4 r5 r6 zf HK HKC HPB HR
        generalize (((((((WQ.setCell ⟨w.heap.size, 0, none⟩ (.int .i64 0)).setCell ⟨w.heap.size, 1, none⟩ (.int .i64 0)).setCell ⟨w.heap.size, 2, none⟩ (.string ⟨#[]⟩)).setCell ⟨w.heap.size, 3, none⟩ (.int .i64 0)).setCell ⟨w.heap.size, 4, none⟩ (.int .i64 0)).setCell ⟨w.heap.size, 5, none⟩ (.slice none 0 0)).setCell ⟨w.heap.size, 6, none⟩ (.slice none 0 0)) = W7 at *
        have HEND : Hid (post (.returned (.tuple #[tval zU, .int .i64 (k' : Int), .int .i64 2])) W7) := by
          show post _ _
          rw [HPO.out]
          exact ⟨Or.inl ⟨_, _, rfl, HPN.out.2, HPN.out.1⟩, HEB.out⟩
        go_wp2_with fail
        have q0 : W7.cell? ⟨w.heap.size, 0, none⟩ = some (.int .i64 0) := Lib.cell_of_heap HE.out 0
        have q1 : W7.cell? ⟨w.heap.size, 1, none⟩ = some (.int .i64 0) := Lib.cell_of_heap HE.out 1
        have q2 : W7.cell? ⟨w.heap.size, 2, none⟩ = some (.string ⟨#[]⟩) := Lib.cell_of_heap HE.out 2
        have q3 : W7.cell? ⟨w.heap.size, 3, none⟩ = some (.int .i64 0) := Lib.cell_of_heap HE.out 3
        have q4 : W7.cell? ⟨w.heap.size, 4, none⟩ = some (.int .i64 0) := Lib.cell_of_heap HE.out 4
        have q5 : W7.cell? ⟨w.heap.size, 5, none⟩ = some (.slice none 0 0) := Lib.cell_of_heap HE.out 5
        have q6 : W7.cell? ⟨w.heap.size, 6, none⟩ = some (.slice none 0 0) := Lib.cell_of_heap HE.out 6
        exact bodyPost_ret (v := .tuple #[tval zU, .int .i64 (k' : Int), .int .i64 2]) (by simp [tval, zU, results, Tryz.results4, go_sem, q0, q1, q2, q3, q4, q5, q6]) rfl (HEND.out)
      · have g2 : ¬ (k' : Int) < s.size := by omega
        have HPN : Hid (prs s = .ok T) := prs_ok HS.out HF.out hlt
        clear hlt
        go_upto_region 9 with fail
        clear c1 c4 g2
        have ee0 : W5.cell? ⟨xb, 0, none⟩ = some (.int .i64 yk) := Lib.cell_of_heap HN.out 0
        have ee1 : W5.cell? ⟨xb, 1, none⟩ = some (.int .i64 yn) := Lib.cell_of_heap HN.out 1
        have ee2 : W5.cell? ⟨xb, 2, none⟩ = some (.string yt) := Lib.cell_of_heap HN.out 2
        have ee3 : W5.cell? ⟨xb, 3, none⟩ = some (.int .i64 yo) := Lib.cell_of_heap HN.out 3
        have ee4 : W5.cell? ⟨xb, 4, none⟩ = some (.int .i64 ya) := Lib.cell_of_heap HN.out 4
        have ee5 : W5.cell? ⟨xb, 5, none⟩ = some (.slice a1 n1 d1) := Lib.cell_of_heap HN.out 5
        have ee6 : W5.cell? ⟨xb, 6, none⟩ = some (.slice a2 n2 d2) := Lib.cell_of_heap HN.out 6
        have r0 : W5.cell? ⟨w.heap.size, 0, none⟩ = some (.int .i64 0) := Lib.cell_of_heap HR.out 0
        have r1 : W5.cell? ⟨w.heap.size, 1, none⟩ = some (.int .i64 0) := Lib.cell_of_heap HR.out 1
        have r2 : W5.cell? ⟨w.heap.size, 2, none⟩ = some (.string ⟨#[]⟩) := Lib.cell_of_heap HR.out 2
        have r3 : W5.cell? ⟨w.heap.size, 3, none⟩ = some (.int .i64 0) := Lib.cell_of_heap HR.out 3
        have r4 : W5.cell? ⟨w.heap.size, 4, none⟩ = some (.int .i64 0) := Lib.cell_of_heap HR.out 4
        have r5 : W5.cell? ⟨w.heap.size, 5, none⟩ = some (.slice none 0 0) := Lib.cell_of_heap HR.out 5
        have r6 : W5.cell? ⟨w.heap.size, 6, none⟩ = some (.slice none 0 0) := Lib.cell_of_heap HR.out 6
        have zf := Lib.frozen_of_heap HR.out
        have HE : Hid ((((((((W5.setCell ⟨w.heap.size, 0, none⟩ (.int .i64 yk)).setCell ⟨w.heap.size, 1, none⟩ (.int .i64 yn)).setCell ⟨w.heap.size, 2, none⟩ (.string yt)).setCell ⟨w.heap.size, 3, none⟩ (.int .i64 yo)).setCell ⟨w.heap.size, 4, none⟩ (.int .i64 ya)).setCell ⟨w.heap.size, 5, none⟩ (.slice a1 n1 d1)).setCell ⟨w.heap.size, 6, none⟩ (.slice a2 n2 d2)).heap[w.heap.size]? = some (.cells #[.int .i64 yk, .int .i64 yn, .string yt, .int .i64 yo, .int .i64 ya, .slice a1 n1 d1, .slice a2 n2 d2] 29)) := set7 HR.out (.int .i64 yk) (.int .i64 yn) (.string yt) (.int .i64 yo) (.int .i64 ya) (.slice a1 n1 d1) (.slice a2 n2 d2)
        have HEB : Hid (Below w.heap.size w (((((((W5.setCell ⟨w.heap.size, 0, none⟩ (.int .i64 yk)).setCell ⟨w.heap.size, 1, none⟩ (.int .i64 yn)).setCell ⟨w.heap.size, 2, none⟩ (.string yt)).setCell ⟨w.heap.size, 3, none⟩ (.int .i64 yo)).setCell ⟨w.heap.size, 4, none⟩ (.int .i64 ya)).setCell ⟨w.heap.size, 5, none⟩ (.slice a1 n1 d1)).setCell ⟨w.heap.size, 6, none⟩ (.slice a2 n2 d2))) := set7_below HBL.out (Nat.le_refl _) (.int .i64 yk) (.int .i64 yn) (.string yt) (.int .i64 yo) (.int .i64 ya) (.slice a1 n1 d1) (.slice a2 n2 d2)
        have HEI : Hid (IsTP (fun b => w.heap.size ≤ b) (((((((W5.setCell ⟨w.heap.size, 0, none⟩ (.int .i64 yk)).setCell ⟨w.heap.size, 1, none⟩ (.int .i64 yn)).setCell ⟨w.heap.size, 2, none⟩ (.string yt)).setCell ⟨w.heap.size, 3, none⟩ (.int .i64 yo)).setCell ⟨w.heap.size, 4, none⟩ (.int .i64 ya)).setCell ⟨w.heap.size, 5, none⟩ (.slice a1 n1 d1)).setCell ⟨w.heap.size, 6, none⟩ (.slice a2 n2 d2)) (tval ((⟨yk, yn, yt, yo, ya⟩, .slice a1 n1 d1, .slice a2 n2 d2) : TV)) T) := HI.out.move (set7_below (Below.refl w.heap.size W5) (Nat.le_refl _) (.int .i64 yk) (.int .i64 yn) (.string yt) (.int .i64 yo) (.int .i64 ya) (.slice a1 n1 d1) (.slice a2 n2 d2)).size (fun b hb _ => oth7 W5 (by omega) (.int .i64 yk) (.int .i64 yn) (.string yt) (.int .i64 yo) (.int .i64 ya) (.slice a1 n1 d1) (.slice a2 n2 d2)) (fun b hb => by omega)
        go_wp2_with fail
        clear ee0 ee1 ee2 ee3 ee4 ee5 ee6 r0 r1 r2 r3 r4 r5 r6 zf HN HR HI HBL HXB HPB
        generalize (((((((W5.setCell ⟨w.heap.size, 0, none⟩ (.int .i64 yk)).setCell ⟨w.heap.size, 1, none⟩ (.int .i64 yn)).setCell ⟨w.heap.size, 2, none⟩ (.string yt)).setCell ⟨w.heap.size, 3, none⟩ (.int .i64 yo)).setCell ⟨w.heap.size, 4, none⟩ (.int .i64 ya)).setCell ⟨w.heap.size, 5, none⟩ (.slice a1 n1 d1)).setCell ⟨w.heap.size, 6, none⟩ (.slice a2 n2 d2)) = W7 at *
        have HEND : Hid (post (.returned (.tuple #[tval ((⟨yk, yn, yt, yo, ya⟩, .slice a1 n1 d1, .slice a2 n2 d2) : TV), .int .i64 0, .int .i64 0])) W7) := by
          show post _ _
          rw [HPO.out]
          exact ⟨Or.inr ⟨_, T, rfl, HEI.out, HPN.out⟩, HEB.out⟩
        have q0 : W7.cell? ⟨w.heap.size, 0, none⟩ = some (.int .i64 yk) := Lib.cell_of_heap HE.out 0
        have q1 : W7.cell? ⟨w.heap.size, 1, none⟩ = some (.int .i64 yn) := Lib.cell_of_heap HE.out 1
        have q2 : W7.cell? ⟨w.heap.size, 2, none⟩ = some (.string yt) := Lib.cell_of_heap HE.out 2
        have q3 : W7.cell? ⟨w.heap.size, 3, none⟩ = some (.int .i64 yo) := Lib.cell_of_heap HE.out 3
        have q4 : W7.cell? ⟨w.heap.size, 4, none⟩ = some (.int .i64 ya) := Lib.cell_of_heap HE.out 4
        have q5 : W7.cell? ⟨w.heap.size, 5, none⟩ = some (.slice a1 n1 d1) := Lib.cell_of_heap HE.out 5
        have q6 : W7.cell? ⟨w.heap.size, 6, none⟩ = some (.slice a2 n2 d2) := Lib.cell_of_heap HE.out 6
        exact bodyPost_ret (v := .tuple #[tval ((⟨yk, yn, yt, yo, ya⟩, .slice a1 n1 d1, .slice a2 n2 d2) : TV), .int .i64 0, .int .i64 0]) (by simp [tval, results, Tryz.results4, go_sem, q0, q1, q2, q3, q4, q5, q6]) rfl (HEND.out)
    · obtain ⟨yk, yn, yt, yo, ya, a1, n1, d1, a2, n2, d2, rfl⟩ := slU_parts (hsl)
      have hr3 : w3.heap[w.heap.size]? = some (.cells #[.int .i64 0, .int .i64 0, .string ⟨#[]⟩, .int .i64 0, .int .i64 0, .slice none 0 0, .slice none 0 0] 29) := (hrk.block _ (by have := HW.out.2.2.2; omega) (by omega)).trans HW.out.2.1
      have hb3 : Below w.heap.size w w3 := hrk.low (by omega) HW.out.2.2.1
      have b4 : Below w3.heap.size w3 (w3.alloc (.cells #[.int .i64 yk, .int .i64 yn, .string yt, .int .i64 yo, .int .i64 ya, .slice a1 n1 d1, .slice a2 n2 d2] 29)) := (Below.refl _ _).alloc (Nat.le_refl _) _
      have HR : Hid ((w3.alloc (.cells #[.int .i64 yk, .int .i64 yn, .string yt, .int .i64 yo, .int .i64 ya, .slice a1 n1 d1, .slice a2 n2 d2] 29)).heap[w.heap.size]? = some (.cells #[.int .i64 0, .int .i64 0, .string ⟨#[]⟩, .int .i64 0, .int .i64 0, .slice none 0 0, .slice none 0 0] 29)) := (b4.block _ (lt_of_heap hr3)).trans hr3
      have HBL : Hid (Below w.heap.size w (w3.alloc (.cells #[.int .i64 yk, .int .i64 yn, .string yt, .int .i64 yo, .int .i64 ya, .slice a1 n1 d1, .slice a2 n2 d2] 29))) := hb3.trans (b4.mono hb3.size)
      have HPB : Hid (PB (w3.alloc (.cells #[.int .i64 yk, .int .i64 yn, .string yt, .int .i64 yo, .int .i64 ya, .slice a1 n1 d1, .slice a2 n2 d2] 29)) (w.heap.size + 1) s k2 m2 kf fe) := hpb.below b4
      have HPN : Hid (prs s = .error (kf, fe) ∧ fe ≠ 0) := ⟨prs_bad HS.out hno, hfe⟩
      have hfb : (fe == 0) = false := by rw [beq_eq_false_iff_ne]; exact hfe
      unfold tval
      dsimp only
      clear hsl hno hpb hrk HW b4 hr3 hb3
      go_upto_region 5 with fail
      generalize (w3.alloc (.cells #[.int .i64 yk, .int .i64 yn, .string yt, .int .i64 yo, .int .i64 ya, .slice a1 n1 d1, .slice a2 n2 d2] 29)) = W5 at *
      have d4 : W5.cell? ⟨w.heap.size + 1, 4, none⟩ = some (.int .i64 fe) := Lib.cell_of_heap HPB.out 4
      go_upto_region 7 with fail
      clear d4
      have c3 : W5.cell? ⟨w.heap.size + 1, 3, none⟩ = some (.int .i64 (kf : Int)) := Lib.cell_of_heap HPB.out 3
      have c4 : W5.cell? ⟨w.heap.size + 1, 4, none⟩ = some (.int .i64 fe) := Lib.cell_of_heap HPB.out 4
      go_upto_region 8 with fail
      have HK : Hid (∀ W9 : World, (∀ b, b ≠ w.heap.size → W9.heap[b]? = W5.heap[b]?) → W9.cell? ⟨w.heap.size + 1, 3, none⟩ = some (.int .i64 (kf : Int)) ∧ W9.cell? ⟨w.heap.size + 1, 4, none⟩ = some (.int .i64 fe)) := fun W9 h9 => ⟨(show W9.cell? _ = _ from Lib.cell_of_heap ((h9 _ (by omega)).trans HPB.out) 3), Lib.cell_of_heap ((h9 _ (by omega)).trans HPB.out) 4⟩
      have HKC : Hid (∀ b, b ≠ w.heap.size → (((((((W5.drew.setCell ⟨w.heap.size, 0, none⟩ (.int .i64 0)).setCell ⟨w.heap.size, 1, none⟩ (.int .i64 0)).setCell ⟨w.heap.size, 2, none⟩ (.string ⟨#[]⟩)).setCell ⟨w.heap.size, 3, none⟩ (.int .i64 0)).setCell ⟨w.heap.size, 4, none⟩ (.int .i64 0)).setCell ⟨w.heap.size, 5, none⟩ (.slice none 0 0)).setCell ⟨w.heap.size, 6, none⟩ (.slice none 0 0)).heap[b]? = W5.heap[b]?) := fun b hb => oth7 W5.drew hb (.int .i64 0) (.int .i64 0) (.string ⟨#[]⟩) (.int .i64 0) (.int .i64 0) (.slice none 0 0) (.slice none 0 0)
      have HE : Hid ((((((((W5.drew.setCell ⟨w.heap.size, 0, none⟩ (.int .i64 0)).setCell ⟨w.heap.size, 1, none⟩ (.int .i64 0)).setCell ⟨w.heap.size, 2, none⟩ (.string ⟨#[]⟩)).setCell ⟨w.heap.size, 3, none⟩ (.int .i64 0)).setCell ⟨w.heap.size, 4, none⟩ (.int .i64 0)).setCell ⟨w.heap.size, 5, none⟩ (.slice none 0 0)).setCell ⟨w.heap.size, 6, none⟩ (.slice none 0 0)).heap[w.heap.size]? = some (.cells #[.int .i64 0, .int .i64 0, .string ⟨#[]⟩, .int .i64 0, .int .i64 0, .slice none 0 0, .slice none 0 0] 29)) := set7 (w := W5.drew) HR.out (.int .i64 0) (.int .i64 0) (.string ⟨#[]⟩) (.int .i64 0) (.int .i64 0) (.slice none 0 0) (.slice none 0 0)
      have HEB : Hid (Below w.heap.size w (((((((W5.drew.setCell ⟨w.heap.size, 0, none⟩ (.int .i64 0)).setCell ⟨w.heap.size, 1, none⟩ (.int .i64 0)).setCell ⟨w.heap.size, 2, none⟩ (.string ⟨#[]⟩)).setCell ⟨w.heap.size, 3, none⟩ (.int .i64 0)).setCell ⟨w.heap.size, 4, none⟩ (.int .i64 0)).setCell ⟨w.heap.size, 5, none⟩ (.slice none 0 0)).setCell ⟨w.heap.size, 6, none⟩ (.slice none 0 0))) := set7_below (HBL.out.trans (Below.refl _ _).drew) (Nat.le_refl _) (.int .i64 0) (.int .i64 0) (.string ⟨#[]⟩) (.int .i64 0) (.int .i64 0) (.slice none 0 0) (.slice none 0 0)
      refine wp_region_noPanic ?_
      refine wp_region_held_drew (S := fun W => W.cell? ⟨w.heap.size + 1, 3, none⟩ = some (.int .i64 (kf : Int)) ∧ W.cell? ⟨w.heap.size + 1, 4, none⟩ = some (.int .i64 fe)) (by kernel_rfl) (⟨c3, c4⟩) (fun hHeld => ?_)
      refine wpAnyH_take (i := 0) (oi := { dst := some 41, op := Op.build 29 #[], type := 29, pos := "json.go:190", after := #[], guard := none }) (v := ?_) rfl (by kernel_rfl) (by kernel_rfl) (by kernel_rfl) (fun _ _ _ h => h) (Or.inl ⟨by rfl, ?_⟩) (by assumption) ?_
      rotate_left
      · intro wz hSw
        try dsimp only at hSw
        go_simp
        try with_reducible rfl
      try simp only [Act.put, List.setIfInBounds_toArray, List.set_cons_zero, List.set_cons_succ]
      refine wpAnyH_take (i := 1) (oi := { dst := some 42, op := Op.move (Operand.tmp 5), type := 38, pos := "json.go:190", after := #[{ on := 9, ground := Ground.gcOnly Departure.lateStores }], guard := none }) (v := ?_) rfl (by kernel_rfl) (by kernel_rfl) (by kernel_rfl) (fun _ _ _ h => h) (Or.inl ⟨by rfl, ?_⟩) (by assumption) ?_
      rotate_left
      · intro wz hSw
        try dsimp only at hSw
        go_simp
        try with_reducible rfl
      try simp only [Act.put, List.setIfInBounds_toArray, List.set_cons_zero, List.set_cons_succ]
      refine wpAnyH_take (i := 2) (oi := { dst := some 43, op := Op.nilCheck (Operand.tmp 42), type := 0, pos := "json.go:190", after := #[{ on := 1, ground := Ground.data }, { on := 9, ground := Ground.gcOnly Departure.lateStores }], guard := none }) (v := ?_) rfl (by kernel_rfl) (by kernel_rfl) (by kernel_rfl) (fun _ _ _ h => h) (Or.inl ⟨by rfl, ?_⟩) (by assumption) ?_
      rotate_left
      · intro wz hSw
        try dsimp only at hSw
        go_simp
        try with_reducible rfl
      try simp only [Act.put, List.setIfInBounds_toArray, List.set_cons_zero, List.set_cons_succ]
      refine wpAnyH_take (i := 3) (oi := { dst := some 44, op := Op.fieldAddr 40 (Operand.tmp 43) 3, type := 0, pos := "json.go:190", after := #[{ on := 2, ground := Ground.data }, { on := 9, ground := Ground.gcOnly Departure.lateStores }], guard := none }) (v := ?_) rfl (by kernel_rfl) (by kernel_rfl) (by kernel_rfl) (fun _ _ _ h => h) (Or.inl ⟨by rfl, ?_⟩) (by assumption) ?_
      rotate_left
      · intro wz hSw
        try dsimp only at hSw
        go_simp
        try with_reducible rfl
      try simp only [Act.put, List.setIfInBounds_toArray, List.set_cons_zero, List.set_cons_succ]
      refine wpAnyH_take (i := 4) (oi := { dst := some 45, op := Op.load 3 (Operand.tmp 44), type := 3, pos := "json.go:190", after := #[{ on := 3, ground := Ground.data }, { on := 9, ground := Ground.gcOnly Departure.lateStores }], guard := none }) (v := ?_) rfl (by kernel_rfl) (by kernel_rfl) (by kernel_rfl) (fun _ _ _ h => h) (Or.inl ⟨by rfl, ?_⟩) (by assumption) ?_
      rotate_left
      · intro wz hSw
        try dsimp only at hSw
        go_simp
        try with_reducible rfl
      try simp only [Act.put, List.setIfInBounds_toArray, List.set_cons_zero, List.set_cons_succ]
      refine wpAnyH_take (i := 5) (oi := { dst := some 46, op := Op.move (Operand.tmp 5), type := 38, pos := "json.go:190", after := #[{ on := 10, ground := Ground.gcOnly Departure.lateStores }], guard := none }) (v := ?_) rfl (by kernel_rfl) (by kernel_rfl) (by kernel_rfl) (fun _ _ _ h => h) (Or.inl ⟨by rfl, ?_⟩) (by assumption) ?_
      rotate_left
      · intro wz hSw
        try dsimp only at hSw
        go_simp
        try with_reducible rfl
      try simp only [Act.put, List.setIfInBounds_toArray, List.set_cons_zero, List.set_cons_succ]
      refine wpAnyH_take (i := 6) (oi := { dst := some 47, op := Op.nilCheck (Operand.tmp 46), type := 0, pos := "json.go:190", after := #[{ on := 5, ground := Ground.data }, { on := 10, ground := Ground.gcOnly Departure.lateStores }], guard := none }) (v := ?_) rfl (by kernel_rfl) (by kernel_rfl) (by kernel_rfl) (fun _ _ _ h => h) (Or.inl ⟨by rfl, ?_⟩) (by assumption) ?_
      rotate_left
      · intro wz hSw
        try dsimp only at hSw
        go_simp
        try with_reducible rfl
      try simp only [Act.put, List.setIfInBounds_toArray, List.set_cons_zero, List.set_cons_succ]
      refine wpAnyH_take (i := 7) (oi := { dst := some 48, op := Op.fieldAddr 40 (Operand.tmp 47) 4, type := 0, pos := "json.go:190", after := #[{ on := 6, ground := Ground.data }, { on := 10, ground := Ground.gcOnly Departure.lateStores }], guard := none }) (v := ?_) rfl (by kernel_rfl) (by kernel_rfl) (by kernel_rfl) (fun _ _ _ h => h) (Or.inl ⟨by rfl, ?_⟩) (by assumption) ?_
      rotate_left
      · intro wz hSw
        try dsimp only at hSw
        go_simp
        try with_reducible rfl
      try simp only [Act.put, List.setIfInBounds_toArray, List.set_cons_zero, List.set_cons_succ]
      refine wpAnyH_take (i := 8) (oi := { dst := some 49, op := Op.load 3 (Operand.tmp 48), type := 3, pos := "json.go:190", after := #[{ on := 7, ground := Ground.data }, { on := 10, ground := Ground.gcOnly Departure.lateStores }], guard := none }) (v := ?_) rfl (by kernel_rfl) (by kernel_rfl) (by kernel_rfl) (fun _ _ _ h => h) (Or.inl ⟨by rfl, ?_⟩) (by assumption) ?_
      rotate_left
      · intro wz hSw
        try dsimp only at hSw
        go_simp
        try with_reducible rfl
      try simp only [Act.put, List.setIfInBounds_toArray, List.set_cons_zero, List.set_cons_succ]
      have HRd : W5.drew.heap[w.heap.size]? = some (.cells #[.int .i64 0, .int .i64 0, .string ⟨#[]⟩, .int .i64 0, .int .i64 0, .slice none 0 0, .slice none 0 0] 29) := HR.out
      generalize W5.drew = WQ at *
      have r0 : WQ.cell? ⟨w.heap.size, 0, none⟩ = some (.int .i64 0) := Lib.cell_of_heap HRd 0
      have r1 : WQ.cell? ⟨w.heap.size, 1, none⟩ = some (.int .i64 0) := Lib.cell_of_heap HRd 1
      have r2 : WQ.cell? ⟨w.heap.size, 2, none⟩ = some (.string ⟨#[]⟩) := Lib.cell_of_heap HRd 2
      have r3 : WQ.cell? ⟨w.heap.size, 3, none⟩ = some (.int .i64 0) := Lib.cell_of_heap HRd 3
      have r4 : WQ.cell? ⟨w.heap.size, 4, none⟩ = some (.int .i64 0) := Lib.cell_of_heap HRd 4
      have r5 : WQ.cell? ⟨w.heap.size, 5, none⟩ = some (.slice none 0 0) := Lib.cell_of_heap HRd 5
      have r6 : WQ.cell? ⟨w.heap.size, 6, none⟩ = some (.slice none 0 0) := Lib.cell_of_heap HRd 6
      have zf := Lib.frozen_of_heap HRd
      clear HRd
      refine wpAnyH_ready (rs := [9]) (by kernel_rfl) (by simp) (AllReadyH.cons (o := { dst := none, op := Op.store 29 (Operand.tmp 2) (Operand.tmp 41), type := 0, pos := "json.go:190", after := #[{ on := 0, ground := Ground.data }, { on := 0, ground := Ground.phase }, { on := 1, ground := Ground.textOnly Departure.lateStores }, { on := 2, ground := Ground.textOnly Departure.lateStores }, { on := 3, ground := Ground.textOnly Departure.lateStores }, { on := 4, ground := Ground.textOnly Departure.lateStores }, { on := 5, ground := Ground.textOnly Departure.lateStores }, { on := 6, ground := Ground.textOnly Departure.lateStores }, { on := 7, ground := Ground.textOnly Departure.lateStores }, { on := 8, ground := Ground.textOnly Departure.lateStores }], guard := none }) rfl (fun K hK => ?_) AllReadyH.nil)
      go_simp
      refine hK.out _ _ (HK.out _ HKC.out) (fun hHeld9 => ?_)
      clear hK K
      try simp only [Act.put, List.setIfInBounds_toArray, List.set_cons_zero, List.set_cons_succ]
      refine wpAnyH_take (i := 10) (oi := { dst := some 3, op := Op.assign (Operand.tmp 45), type := 3, pos := "json.go:190", after := #[{ on := 4, ground := Ground.data }, { on := 9, ground := Ground.chain }, { on := 0, ground := Ground.phase }, { on := 1, ground := Ground.phase }, { on := 2, ground := Ground.phase }, { on := 3, ground := Ground.phase }, { on := 4, ground := Ground.phase }, { on := 5, ground := Ground.textOnly Departure.lateStores }, { on := 6, ground := Ground.textOnly Departure.lateStores }, { on := 7, ground := Ground.textOnly Departure.lateStores }, { on := 8, ground := Ground.textOnly Departure.lateStores }, { on := 9, ground := Ground.phase }], guard := none }) (v := ?_) rfl (by kernel_rfl) (by kernel_rfl) (by kernel_rfl) (fun _ _ _ h => h) (Or.inl ⟨by rfl, ?_⟩) (by assumption) ?_
      rotate_left
      · intro wz hSw
        try dsimp only at hSw
        go_simp
        try with_reducible rfl
      try simp only [Act.put, List.setIfInBounds_toArray, List.set_cons_zero, List.set_cons_succ]
      refine wpAnyH_take (i := 11) (oi := { dst := some 4, op := Op.assign (Operand.tmp 49), type := 3, pos := "json.go:190", after := #[{ on := 8, ground := Ground.data }, { on := 10, ground := Ground.chain }, { on := 0, ground := Ground.phase }, { on := 1, ground := Ground.phase }, { on := 2, ground := Ground.phase }, { on := 3, ground := Ground.phase }, { on := 4, ground := Ground.phase }, { on := 5, ground := Ground.phase }, { on := 6, ground := Ground.phase }, { on := 7, ground := Ground.phase }, { on := 8, ground := Ground.phase }, { on := 9, ground := Ground.phase }, { on := 10, ground := Ground.phase }], guard := none }) (v := ?_) rfl (by kernel_rfl) (by kernel_rfl) (by kernel_rfl) (fun _ _ _ h => h) (Or.inl ⟨by rfl, ?_⟩) (by assumption) ?_
      rotate_left
      · intro wz hSw
        try dsimp only at hSw
        go_simp
        try with_reducible rfl
      try simp only [Act.put, List.setIfInBounds_toArray, List.set_cons_zero, List.set_cons_succ]
      refine wpAnyH_done (by kernel_rfl) ?_ _
      refine NoPanic.normal ?_
      clear hHeld hHeld9 c3 c4 r0 r1 r2 r3 r4 r5 r6 zf HK HKC HPB HR
      generalize (((((((WQ.setCell ⟨w.heap.size, 0, none⟩ (.int .i64 0)).setCell ⟨w.heap.size, 1, none⟩ (.int .i64 0)).setCell ⟨w.heap.size, 2, none⟩ (.string ⟨#[]⟩)).setCell ⟨w.heap.size, 3, none⟩ (.int .i64 0)).setCell ⟨w.heap.size, 4, none⟩ (.int .i64 0)).setCell ⟨w.heap.size, 5, none⟩ (.slice none 0 0)).setCell ⟨w.heap.size, 6, none⟩ (.slice none 0 0)) = W7 at *
      have HEND : Hid (post (.returned (.tuple #[tval zU, .int .i64 (kf : Int), .int .i64 fe])) W7) := by
        show post _ _
        rw [HPO.out]
        exact ⟨Or.inl ⟨_, _, rfl, HPN.out.2, HPN.out.1⟩, HEB.out⟩
      go_wp2_with fail
      have q0 : W7.cell? ⟨w.heap.size, 0, none⟩ = some (.int .i64 0) := Lib.cell_of_heap HE.out 0
      have q1 : W7.cell? ⟨w.heap.size, 1, none⟩ = some (.int .i64 0) := Lib.cell_of_heap HE.out 1
      have q2 : W7.cell? ⟨w.heap.size, 2, none⟩ = some (.string ⟨#[]⟩) := Lib.cell_of_heap HE.out 2
      have q3 : W7.cell? ⟨w.heap.size, 3, none⟩ = some (.int .i64 0) := Lib.cell_of_heap HE.out 3
      have q4 : W7.cell? ⟨w.heap.size, 4, none⟩ = some (.int .i64 0) := Lib.cell_of_heap HE.out 4
      have q5 : W7.cell? ⟨w.heap.size, 5, none⟩ = some (.slice none 0 0) := Lib.cell_of_heap HE.out 5
      have q6 : W7.cell? ⟨w.heap.size, 6, none⟩ = some (.slice none 0 0) := Lib.cell_of_heap HE.out 6
      exact bodyPost_ret (v := .tuple #[tval zU, .int .i64 (kf : Int), .int .i64 fe]) (by simp [tval, zU, results, Tryz.results4, go_sem, q0, q1, q2, q3, q4, q5, q6]) rfl (HEND.out)
end Go.Proofs.YtnmdhbejjjmdeaaGreatDoor
