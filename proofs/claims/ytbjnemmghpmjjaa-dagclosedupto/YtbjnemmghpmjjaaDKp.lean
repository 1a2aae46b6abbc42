/-
  What is proved: what stays as it is while some blocks turn; books that lie in memory; what package dag's New and Has answer.
  Conditions: as each theorem says.
-/
import Derived.Test.YtbjnemmghpmjjaaGNum
import Derived.Test.YtbjnemmghpmjjaaCDecode
namespace Go.Proofs.Ytbjnemmghpmjjaa
open Go.RowKit Go.Maps

/-- All but some blocks is as it was. -/
structure Kp (S : List Nat) (w w' : World) : Prop where
  os : w'.os = w.os
  tape : w'.tape = w.tape
  output : w'.output = w.output
  size : w.heap.size ≤ w'.heap.size
  block : ∀ k, k < w.heap.size → k ∉ S → w'.heap[k]? = w.heap[k]?

theorem Kp.refl (S : List Nat) (w : World) : Kp S w w := ⟨rfl, rfl, rfl, Nat.le_refl _, fun _ _ _ => rfl⟩
theorem Kp.trans {S : List Nat} {w w1 w2 : World} (h : Kp S w w1) (k : Kp S w1 w2) : Kp S w w2 :=
  ⟨k.os.trans h.os, k.tape.trans h.tape, k.output.trans h.output, Nat.le_trans h.size k.size, fun b hb hS => (k.block b (Nat.lt_of_lt_of_le hb h.size) hS).trans (h.block b hb hS)⟩
theorem Kp.mono {S R : List Nat} {w w' : World} (h : Kp S w w') (hS : ∀ b ∈ S, b ∈ R) : Kp R w w' :=
  ⟨h.os, h.tape, h.output, h.size, fun b hb hR => h.block b hb (fun e => hR (hS b e))⟩
theorem Kp.of {S : List Nat} {w w' : World} (h : Below w.heap.size w w') : Kp S w w' := ⟨h.os, h.tape, h.output, h.size, fun k hk _ => h.block k hk⟩
theorem Kp.below {S : List Nat} {B : Nat} {w w' : World} (h : Kp S w w') (hB : ∀ b ∈ S, B ≤ b) (hz : B ≤ w.heap.size) : Below B w w' :=
  ⟨h.os, h.tape, h.output, h.size, fun k hk => h.block k (by omega) (fun e => by have := hB k e; omega)⟩
theorem lt_of_heap {w : World} {b : Nat} {o : Obj} (hb : w.heap[b]? = some o) : b < w.heap.size := by
  rcases Nat.lt_or_ge b w.heap.size with h1 | h1
  · exact h1
  · rw [Array.getElem?_eq_none h1] at hb; cases hb
theorem Kp.heap {S : List Nat} {w w' : World} {b : Nat} {o : Obj} (h : Kp S w w') (hb : w.heap[b]? = some o) (hS : b ∉ S) : w'.heap[b]? = some o := by
  rw [h.block b (lt_of_heap hb) hS]; exact hb
theorem Kp.turned {w w' : World} {b : Nat} (h : w.mapTurned w' b) : Kp [b] w w' :=
  have g := h.grown
  ⟨g.os, g.tape, g.output, g.size, fun k hk hS => g.block k hk (fun e => hS (by rw [Option.some.inj e]; simp))⟩
theorem MapL.kp {w w' : World} {b : Nat} {L : List (Pr × Value)} {S : List Nat} (h : MapL w b L) (k : Kp S w w') (hb : b ∉ S) : MapL w' b L := by
  obtain ⟨D, ⟨es, clock, h0, h1⟩, h2⟩ := h.own
  exact ⟨⟨D, ⟨es, clock, k.heap h0 hb, h1⟩, h2⟩, h.nd, h.r64⟩

/-- A book that lies in memory: what it has, and what waits. -/
structure BookAt (w : World) (g h q : Nat) (LH LW : List (Pr × Value)) : Prop where
  box : w.heap[g]? = some (.cells #[.map (some h), .map (some q)] 43)
  has : MapL w h LH
  wait : MapL w q LW
  ne : h ≠ q

theorem BookAt.below {w w' : World} {g h q : Nat} {LH LW : List (Pr × Value)} (B : BookAt w g h q LH LW) (b : Below w.heap.size w w') : BookAt w' g h q LH LW :=
  ⟨(Kp.of (S := []) b).heap B.box (by simp), B.has.below b, B.wait.below b, B.ne⟩

theorem zeroC (w : World) : (zeroValue 31).run Try.prog w = .ok (.agg #[.int .i64 0, .int .i64 0, .int .i64 0, .slice none 0 0, .slice none 0 0]) w := by kernel_rfl

set_option maxRecDepth 100000 in
set_option maxHeartbeats 2000000 in
theorem dnew_any (w : World) : Calls Try.prog 4 #[] w fun e w' => e = .returned (.pointer (some ⟨w.heap.size + 2, 0, none⟩)) ∧ BookAt w' (w.heap.size + 2) w.heap.size (w.heap.size + 1) [] [] ∧ Below w.heap.size w w' := by
  have hmm := @run_makeMap Try.prog
  have M0 := MapL.made w
  have M1 := MapL.made (w.alloc (.map #[] 0))
  have b1 := (Below.refl (w.alloc (.map #[] 0)).heap.size (w.alloc (.map #[] 0))).alloc (Nat.le_refl _) (.map #[] 0)
  have b2 := (Below.refl ((w.alloc (.map #[] 0)).alloc (.map #[] 0)).heap.size ((w.alloc (.map #[] 0)).alloc (.map #[] 0))).alloc (Nat.le_refl _) (.cells #[.map (some w.heap.size), .map (some (w.heap.size + 1))] 43)
  have e1 : (w.alloc (.map #[] 0)).heap.size = w.heap.size + 1 := by simp
  rw [e1] at M1
  have HF : Hid (_ ∧ _ ∧ _ ∧ _) := ⟨(M0.below b1).below b2, M1.below b2, (MapKept.heap_alloc ((w.alloc (.map #[] 0)).alloc (.map #[] 0)) (.cells #[.map (some w.heap.size), .map (some (w.heap.size + 1))] 43)).1, (((Below.refl w.heap.size w).alloc (Nat.le_refl _) (.map #[] 0)).alloc (by simp) (.map #[] 0)).alloc (by simp; omega) (.cells #[.map (some w.heap.size), .map (some (w.heap.size + 1))] 43)⟩
  clear M0 M1 b1 b2 e1
  go_enter Try.func4, Try.ntmps4
  go_wp2
  go_ret
  exact ⟨rfl, ⟨by have := HF.out.2.2.1; simpa using this, HF.out.1, HF.out.2.1, by omega⟩, HF.out.2.2.2⟩

/-- A value that is a change's, by its form. -/
def CV (v : Value) : Prop := ∃ (a s t : Int) (d : Option Addr) (n c : Nat) (o : Option Addr) (m e : Nat), v = .agg #[.int .i64 a, .int .i64 s, .int .i64 t, .slice d n c, .slice o m e]
abbrev zC : Value := .agg #[.int .i64 0, .int .i64 0, .int .i64 0, .slice none 0 0, .slice none 0 0]
theorem cv_look {L : List (Pr × Value)} (h : ∀ q ∈ L, CV q.2) (r : Pr) : CV ((lk L r).getD zC) := by
  cases hl : lk L r with
  | none => exact ⟨0, 0, 0, none, 0, 0, none, 0, 0, rfl⟩
  | some v => exact h _ (lk_mem hl)

set_option maxRecDepth 100000 in
set_option maxHeartbeats 2000000 in
theorem has_any (g h q : Nat) (LH LW : List (Pr × Value)) (r : Pr) (w : World) (B : BookAt w g h q LH LW) (hr : R64 r) (hC : ∀ q ∈ LH, CV q.2) :
    Calls Try.prog 6 #[.pointer (some ⟨g, 0, none⟩), refV r] w fun e w' => e = .returned (.bool (lk LH r).isSome) ∧ Below w.heap.size w w' := by
  have b0 := (Below.refl w.heap.size w).alloc (Nat.le_refl _) (.cells #[.int .i64 r.1, .int .i64 r.2] 34)
  have hz1 : w.heap.size < (w.alloc (.cells #[.int .i64 r.1, .int .i64 r.2] 34)).heap.size := by simp
  have B1 := B.below b0
  have x0 := (MapKept.heap_alloc w (.cells #[.int .i64 r.1, .int .i64 r.2] 34)).1
  have HA : Hid (_ ∧ _ ∧ _) := ⟨b0, B1, x0⟩
  clear B B1 b0 x0 hz1
  go_enter Try.func6, Try.ntmps6
  go_wp2
  obtain ⟨b0, B1, x0⟩ := HA.out
  clear HA
  generalize w.alloc (.cells #[.int .i64 r.1, .int .i64 r.2] 34) = W at *
  have c0 : W.cell? ⟨g, 0, none⟩ = some (.map (some h)) := Lib.cell_of_heap B1.box 0
  have r0 : W.cell? ⟨w.heap.size, 0, none⟩ = some (.int .i64 r.1) := Lib.cell_of_heap x0 0
  have r1 : W.cell? ⟨w.heap.size, 1, none⟩ = some (.int .i64 r.2) := Lib.cell_of_heap x0 1
  have hg := lt_of_heap B1.box
  have hx := lt_of_heap x0
  have hl := MapL.look (w := W.drew) ⟨B1.has.own, B1.has.nd, B1.has.r64⟩ Try.underlying41 (zeroC _) hr
  have B2 := B1.has.below ((Below.refl W.heap.size W).alloc (Nat.le_refl _) (.cells #[.int .i64 0, .int .i64 0, .int .i64 0, .slice none 0 0, .slice none 0 0] 31))
  have hl2 := MapL.look (w := (W.alloc (.cells #[.int .i64 0, .int .i64 0, .int .i64 0, .slice none 0 0, .slice none 0 0] 31)).drew) ⟨B2.own, B2.nd, B2.r64⟩ Try.underlying41 (zeroC _) hr
  obtain ⟨va, vs, vt, vd, vn, vc, vo, vm, ve, hv⟩ := cv_look hC r
  rw [hv] at hl hl2
  have HB : Hid (∀ o, Below w.heap.size w (W.alloc o).drew) := fun o => by
    have := b0.alloc (show w.heap.size ≤ W.heap.size by omega) o
    exact ⟨this.os, this.tape, this.output, this.size, this.block⟩
  clear b0 B1 B2 x0 hv hC
  obtain ⟨ib, HI⟩ : ∃ b : Bool, Hid (b = (lk LH r).isSome) := ⟨_, rfl⟩
  rw [← HI.out] at hl hl2
  go_region
  all_goals
    go_wp2
    go_ret
    exact ⟨by rw [← HI.out]; rfl, HB.out _⟩
end Go.Proofs.Ytbjnemmghpmjjaa
