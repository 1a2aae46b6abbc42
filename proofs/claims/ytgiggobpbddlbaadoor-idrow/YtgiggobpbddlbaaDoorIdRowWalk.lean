/-
  What is proved: the law IdRow, called with any three ids, returns true, and nothing that was there has turned.
  Conditions: the package variables that it looks at lie as the text lays them.
-/
import Derived.Test.YtgiggobpbddlbaaDoorParse
namespace Go.Proofs.YtgiggobpbddlbaaDoor
open Go.RowKit Go.Sort

/-- The world in which three ids lie in boxes. -/
def box3 (w : World) (n a m b k c : Int) : World := ((w.alloc (.cells #[.int .i64 n, .int .i64 a] 23)).alloc (.cells #[.int .i64 m, .int .i64 b] 23)).alloc (.cells #[.int .i64 k, .int .i64 c] 23)

theorem box3_size (w : World) (n a m b k c : Int) : (box3 w n a m b k c).heap.size = w.heap.size + 3 := by simp [box3]

theorem box3_cells {w w' : World} {n a m b k c : Int} (B : Below (w.heap.size + 3) (box3 w n a m b k c) w') :
    (w'.cell? ⟨w.heap.size, 0, none⟩ = some (.int .i64 n) ∧ w'.cell? ⟨w.heap.size, 1, none⟩ = some (.int .i64 a)) ∧
    (w'.cell? ⟨w.heap.size + 1, 0, none⟩ = some (.int .i64 m) ∧ w'.cell? ⟨w.heap.size + 1, 1, none⟩ = some (.int .i64 b)) ∧
    (w'.cell? ⟨w.heap.size + 1 + 1, 0, none⟩ = some (.int .i64 k) ∧ w'.cell? ⟨w.heap.size + 1 + 1, 1, none⟩ = some (.int .i64 c)) := by
  refine ⟨⟨?_, ?_⟩, ⟨?_, ?_⟩, ?_, ?_⟩
  · rw [B.cell (p := ⟨w.heap.size, 0, none⟩) (Nat.lt_add_of_pos_right (by omega)), box3, World.cell?_alloc_past _ _ _ (by simp; omega), World.cell?_alloc_past _ _ _ (by simp), World.cell?_alloc_new]; rfl
  · rw [B.cell (p := ⟨w.heap.size, 1, none⟩) (Nat.lt_add_of_pos_right (by omega)), box3, World.cell?_alloc_past _ _ _ (by simp; omega), World.cell?_alloc_past _ _ _ (by simp), World.cell?_alloc_new]; rfl
  · rw [B.cell (p := ⟨w.heap.size + 1, 0, none⟩) (Nat.add_lt_add_left (by omega) _), box3, World.cell?_alloc_past _ _ _ (by simp), World.cell?_alloc_at _ _ _ _ (by simp)]; rfl
  · rw [B.cell (p := ⟨w.heap.size + 1, 1, none⟩) (Nat.add_lt_add_left (by omega) _), box3, World.cell?_alloc_past _ _ _ (by simp), World.cell?_alloc_at _ _ _ _ (by simp)]; rfl
  · rw [B.cell (p := ⟨w.heap.size + 1 + 1, 0, none⟩) (Nat.lt_succ_self _), box3, World.cell?_alloc_at _ _ _ _ (by simp)]; rfl
  · rw [B.cell (p := ⟨w.heap.size + 1 + 1, 1, none⟩) (Nat.lt_succ_self _), box3, World.cell?_alloc_at _ _ _ _ (by simp)]; rfl

/-- How four comparisons may come out. -/
def Out (n a m b : Int) (ab ba bc ac : Bool) : Prop :=
  (ab = true ∧ ba = false ∧ bc = true ∧ ac = true) ∨ (ab = true ∧ ba = false ∧ bc = false) ∨ (ab = false ∧ ba = true) ∨ (ab = false ∧ ba = false ∧ n = m ∧ a = b)

theorem out_less (n a m b k c : Int) : Out n a m b (lessB n a m b) (lessB m b n a) (lessB m b k c) (lessB n a k c) := by
  unfold Out lessB
  by_cases h1 : n = m
  · subst h1
    by_cases h2 : n = k
    · subst h2
      simp
      omega
    · simp [h2]
      omega
  · have h1' : ¬ m = n := fun e => h1 e.symm
    by_cases h2 : n = k
    · subst h2
      simp [h1, h1']
      omega
    · by_cases h3 : m = k
      · subst h3
        simp [h1, h1']
        omega
      · simp [h1, h1', h2, h3]
        omega

set_option maxHeartbeats 1000000 in
theorem idRow_walk (n a m b k c : Int) (w : World) (E : Env w) (ab ba bc ac : Bool) (hab : lessB n a m b = ab) (hba : lessB m b n a = ba) (hbc : lessB m b k c = bc) (hac : lessB n a k c = ac) (hO : Out n a m b ab ba bc ac) :
    Calls Tryd.prog 4 #[.agg #[.int .i64 n, .int .i64 a], .agg #[.int .i64 m, .int .i64 b], .agg #[.int .i64 k, .int .i64 c]] w fun e w' => e = .returned (.bool true) ∧ Below w.heap.size w w' := by
  have l1 : lessB 1 9 2 1 = true := by decide
  have z0 := box3_size w n a m b k c
  have B0 : Below w.heap.size w (box3 w n a m b k c) := (((Below.refl _ _).alloc (Nat.le_refl _) _).alloc (by simp) _).alloc (by simp; omega) _
  go_enter Tryd.func4, Tryd.ntmps4
  go_wp2_with fail
  refine (less_any 1 9 2 1 (box3 w n a m b k c)).mono ?_
  rintro e w1 ⟨rfl, hb⟩
  rw [z0] at hb
  have z1 : w.heap.size + 3 ≤ w1.heap.size := by have := hb.size; omega
  obtain ⟨⟨p0, p1⟩, ⟨q0, q1⟩, r0, r1⟩ := box3_cells hb
  rw [l1]
  go_wp2_with fail
  refine (less_any n a m b _).mono ?_
  rintro e w2 ⟨rfl, hb2⟩
  rw [hab]
  replace hb := hb.trans (hb2.mono z1)
  replace z1 : w.heap.size + 3 ≤ w2.heap.size := by have := hb2.size; omega
  clear hb2 p0 p1 q0 q1 r0 r1
  obtain ⟨⟨p0, p1⟩, ⟨q0, q1⟩, r0, r1⟩ := box3_cells hb
  go_wp2_with fail
  refine (less_any m b n a _).mono ?_
  rintro e w3 ⟨rfl, hb2⟩
  rw [hba]
  replace hb := hb.trans (hb2.mono z1)
  replace z1 : w.heap.size + 3 ≤ w3.heap.size := by have := hb2.size; omega
  clear hb2 p0 p1 q0 q1 r0 r1
  obtain ⟨⟨p0, p1⟩, ⟨q0, q1⟩, r0, r1⟩ := box3_cells hb
  go_wp2_with fail
  refine (less_any m b k c _).mono ?_
  rintro e w4 ⟨rfl, hb2⟩
  rw [hbc]
  replace hb := hb.trans (hb2.mono z1)
  replace z1 : w.heap.size + 3 ≤ w4.heap.size := by have := hb2.size; omega
  clear hb2 p0 p1 q0 q1 r0 r1
  obtain ⟨⟨p0, p1⟩, ⟨q0, q1⟩, r0, r1⟩ := box3_cells hb
  go_wp2_with fail
  refine (less_any n a k c _).mono ?_
  rintro e w5 ⟨rfl, hb2⟩
  rw [hac]
  replace hb := hb.trans (hb2.mono z1)
  replace z1 : w.heap.size + 3 ≤ w5.heap.size := by have := hb2.size; omega
  clear hb2 p0 p1 q0 q1 r0 r1 hab hba hbc hac l1
  obtain ⟨⟨p0, p1⟩, ⟨q0, q1⟩, r0, r1⟩ := box3_cells hb
  have E5 : Env w5 := (E.below B0).below (by rw [z0]; exact hb)
  have B5 : Below w.heap.size w w5 := B0.trans (hb.mono (by omega))
  clear B0 z0 E
  rcases hO with ⟨rfl, rfl, rfl, rfl⟩ | ⟨rfl, rfl, rfl⟩ | ⟨rfl, rfl⟩ | ⟨rfl, rfl, rfl, rfl⟩
  all_goals
    go_wp2_with fail
    by_cases hr : n = 0 ∧ a = 0
    · obtain ⟨rfl, rfl⟩ := hr
      refine (check_root _).mono ?_
      rintro e w6 ⟨rfl, hb6⟩
      have h6 := hb.trans (hb6.mono z1)
      have z6 : w.heap.size + 3 ≤ w6.heap.size := by have := hb6.size; omega
      have B6 := B5.trans (hb6.mono (by omega))
      clear p0 p1 q0 q1 r0 r1 hb hb6 B5
      obtain ⟨⟨p0, p1⟩, ⟨q0, q1⟩, r0, r1⟩ := box3_cells h6
      go_wp2_with fail
      refine (name_root _).mono ?_
      rintro e w7 ⟨rfl, hb7⟩
      have h7 := h6.trans (hb7.mono z6)
      have z7 : w.heap.size + 3 ≤ w7.heap.size := by have := hb7.size; omega
      have B7 := B6.trans (hb7.mono (by omega))
      clear p0 p1 q0 q1 r0 r1 h6 hb7 B6
      go_wp2_with fail
      refine (parse_root _).mono ?_
      rintro e w8 ⟨rfl, hb8⟩
      have h8 := h7.trans (hb8.mono z7)
      have z8 : w.heap.size + 3 ≤ w8.heap.size := by have := hb8.size; omega
      have B8 := B7.trans (hb8.mono (by omega))
      clear h7 hb8 B7 E5
      obtain ⟨⟨p0, p1⟩, ⟨q0, q1⟩, r0, r1⟩ := box3_cells h8
      clear h8 q0 q1 r0 r1
      have z9 : w.heap.size < w8.heap.size := by omega
      have y0 : ∀ o, (w8.alloc o).cell? ⟨w.heap.size, 0, none⟩ = some (.int .i64 0) := fun o => (World.cell?_alloc_past o _ _ z9).trans p0
      have y1 : ∀ o, (w8.alloc o).cell? ⟨w.heap.size, 1, none⟩ = some (.int .i64 0) := fun o => (World.cell?_alloc_past o _ _ z9).trans p1
      go_wp2
      go_ret
      exact ⟨rfl, B8.alloc (by omega) _⟩
    · by_cases hR : Real n a
      · refine (check_real n a _ hR).mono ?_
        rintro e w6 ⟨rfl, hb6⟩
        have h6 := hb.trans (hb6.mono z1)
        have z6 : w.heap.size + 3 ≤ w6.heap.size := by have := hb6.size; omega
        have B6 := B5.trans (hb6.mono (by omega))
        have E6 : Env w6 := E5.below hb6
        clear p0 p1 q0 q1 r0 r1 hb hb6 B5
        obtain ⟨⟨p0, p1⟩, ⟨q0, q1⟩, r0, r1⟩ := box3_cells h6
        go_wp2_with fail
        refine (name_real n a _ hR E6.1).mono ?_
        rintro e w7 ⟨rfl, hb7⟩
        have h7 := h6.trans (hb7.mono z6)
        have z7 : w.heap.size + 3 ≤ w7.heap.size := by have := hb7.size; omega
        have B7 := B6.trans (hb7.mono (by omega))
        have E7 : Env w7 := E6.below hb7
        clear p0 p1 q0 q1 r0 r1 h6 hb7 B6
        go_wp2_with fail
        refine (parse_real n a _ hR E7).mono ?_
        rintro e w8 ⟨rfl, hb8⟩
        have h8 := h7.trans (hb8.mono z7)
        have z8 : w.heap.size + 3 ≤ w8.heap.size := by have := hb8.size; omega
        have B8 := B7.trans (hb8.mono (by omega))
        clear h7 hb8 B7 E5 E6 E7
        obtain ⟨⟨p0, p1⟩, ⟨q0, q1⟩, r0, r1⟩ := box3_cells h8
        clear h8 q0 q1 r0 r1
        have z9 : w.heap.size < w8.heap.size := by omega
        have y0 : ∀ o, (w8.alloc o).cell? ⟨w.heap.size, 0, none⟩ = some (.int .i64 n) := fun o => (World.cell?_alloc_past o _ _ z9).trans p0
        have y1 : ∀ o, (w8.alloc o).cell? ⟨w.heap.size, 1, none⟩ = some (.int .i64 a) := fun o => (World.cell?_alloc_past o _ _ z9).trans p1
        go_wp2
        go_ret
        exact ⟨rfl, B8.alloc (by omega) _⟩
      · refine (check_bad n a _ ⟨hr, hR⟩).mono ?_
        rintro e w6 ⟨rfl, hb6⟩
        have B6 := B5.trans (hb6.mono (by omega))
        clear p0 p1 q0 q1 r0 r1 hb hb6 B5 E5
        go_wp2
        go_ret
        exact ⟨rfl, B6⟩

theorem idRow_any (n a m b k c : Int) (w : World) (E : Env w) :
    Calls Tryd.prog 4 #[.agg #[.int .i64 n, .int .i64 a], .agg #[.int .i64 m, .int .i64 b], .agg #[.int .i64 k, .int .i64 c]] w fun e w' => e = .returned (.bool true) ∧ Below w.heap.size w w' :=
  idRow_walk n a m b k c w E _ _ _ _ rfl rfl rfl rfl (out_less n a m b k c)
end Go.Proofs.YtgiggobpbddlbaaDoor
