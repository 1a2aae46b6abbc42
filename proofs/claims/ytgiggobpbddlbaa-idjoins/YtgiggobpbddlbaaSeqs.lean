/-
  What is proved: the function seqs of package id makes of a clock a map of what is known; the function Refs of package booksame tells whether two lists are one.
  Conditions: as each theorem says.
-/
import Derived.Test.YtgiggobpbddlbaaRefs
import Derived.Maps.Own
import Derived.Maps.OwnOps
import Derived.Maps.Views
namespace Go.Proofs.Ytgiggobpbddlbaa
open Go.RowKit Go.Maps

/-- A map's datum that holds just what is known. -/
def Known (D : DataW Unit) (f : Int → Int) : Prop :=
  IsMap D ∧ (∀ x, Maps.has D (.int .i64 x) = decide (0 < f x)) ∧ ∀ x, D.atKey (.int .i64 x) (.lit (.int .i64 0)) = .lit (.int .i64 (f x))

theorem Known.empty : Known (.map []) (fun _ => 0) := ⟨isMap_empty, fun _ => rfl, fun _ => rfl⟩

theorem lit_ne {x k : Int} (h : ¬ x = k) : Lit.int .i64 x ≠ .int .i64 k := fun e => h (by injection e)

theorem Known.put {D : DataW Unit} {f : Int → Int} (h : Known D f) (k v : Int) (hv : 0 < v) : Known (D.put (.int .i64 k) (.lit (.int .i64 v))) (fun x => if x = k then v else f x) := by
  obtain ⟨h1, h2, h3⟩ := h
  refine ⟨h1.put _ _, fun x => ?_, fun x => ?_⟩
  · by_cases e : x = k
    · subst e
      rw [has_put_same (k := .int .i64 x) h1 trivial]
      simp [hv]
    · rw [has_put_other (lit_ne e), h2 x]
      simp [e]
  · by_cases e : x = k
    · subst e
      rw [atKey_put_same (k := .int .i64 x) h1 trivial]
      simp
    · rw [atKey_put_other (lit_ne e), h3 x]
      simp [e]

theorem Known.at {D : DataW Unit} {f : Int → Int} (h : Known D f) {k c : Int} (hat : D.atKey (.int .i64 k) (.lit (.int .i64 0)) = .lit (.int .i64 c)) : c = f k := by
  rw [h.2.2 k] at hat
  injection hat with e
  injection e with e1 e2
  exact e2.symm

theorem Known.congr {D : DataW Unit} {f g : Int → Int} (h : Known D f) (e : ∀ x, f x = g x) : Known D g := by
  rw [show g = f from funext fun x => (e x).symm]
  exact h

theorem law3 : Keyed Try.prog 3 := int_keyed Try.underlying3
theorem zero3 (w : World) : (zeroValue 3).run Try.prog w = .ok (.int .i64 0) w := by kernel_rfl

/-- A map in memory that holds just what is known. -/
def MapIs (w : World) (b n : Nat) (f : Int → Int) : Prop := ∃ D : DataW Unit, w.ownsMap Try.prog 3 (plainElem Try.prog 3) b n D ∧ Known D f

theorem wf_small (x : Int) (h0 : 0 ≤ x) (h1 : x ≤ 1000000) : (Lit.int .i64 x).wf = true := WalkArith.wf_i64 (by omega)

set_option maxHeartbeats 400000 in
theorem seqs_none (a : Option Addr) (c : Nat) (w : World) : Calls Try.prog 10 #[.slice a 0 c] w fun e w' => e = .returned (.map (some w.heap.size)) ∧ MapIs w' w.heap.size 0 (mx []) ∧ Below w.heap.size w w' := by
  have hmm := @run_makeMap Try.prog
  go_enter Try.func10, Try.ntmps10
  go_wp2
  refine wp_loop_rounds 1 ?_
  rw [rounds_succ]
  go_wp2
  go_ret
  exact ⟨rfl, ⟨_, World.ownsMap_made _ _ _ _, Known.empty⟩, (Below.refl _ _).alloc (Nat.le_refl _) _⟩

theorem mx_step {l : List Ref} (hv : Valid l) (k : Nat) (h : k < l.length) (x : Int) : mx (l.take (k + 1)) x = if x = l[k].1 then l[k].2 else mx (l.take k) x := by
  rw [List.take_succ_eq_append_getElem h, mx_snoc]
  by_cases e : x = l[k].1
  · rw [if_pos e.symm, if_pos e]
    have : mx (l.take k) x = 0 := mx_none _ _ (fun p hp e2 => by
      obtain ⟨i, hi, rfl⟩ := List.getElem_of_mem hp
      have hik : i < k := by rw [List.length_take] at hi; omega
      have := List.pairwise_iff_getElem.1 hv.2 i k (by omega) h hik
      rw [List.getElem_take] at e2
      omega)
    have h1 := (hv.1 l[k] (List.getElem_mem h)).2.2.1
    rw [this]
    omega
  · rw [if_neg (fun e2 => e e2.symm), if_neg e]

set_option maxHeartbeats 400000 in
set_option maxRecDepth 100000 in
theorem seqs_some (b off cap : Nat) (l : List Ref) (w : World) (hv : Valid l) (hb : b < w.heap.size)
    (hc : ∀ i (h : i < l.length), w.cell? ⟨b, off + i * 2, none⟩ = some (.int .i64 l[i].1) ∧ w.cell? ⟨b, off + i * 2 + 1, none⟩ = some (.int .i64 l[i].2)) :
    Calls Try.prog 10 #[.slice (some ⟨b, off, none⟩) l.length cap] w fun e w' => e = .returned (.map (some w.heap.size)) ∧ MapIs w' w.heap.size l.length (mx l) ∧ Below w.heap.size w w' := by
  have hlen := valid_len hv
  have hmm := @run_makeMap Try.prog
  go_enter Try.func10, Try.ntmps10
  go_wp2
  go_loopw [9] (fun i wr => ∃ (k : Nat) (D : DataW Unit), k ≤ l.length ∧ i = .int .i64 k ∧ wr.ownsMap Try.prog 3 (plainElem Try.prog 3) w.heap.size k D ∧ Known D (mx (l.take k)) ∧ Below w.heap.size w wr) (fun i _ => l.length - (RowKit.intOf i).toNat)
  case atStart => exact ⟨0, _, Nat.zero_le _, rfl, World.ownsMap_made _ _ _ _, Known.empty, (Below.refl _ _).alloc (Nat.le_refl _) _⟩
  case round =>
    obtain ⟨k, D, hk, rfl, hown, hK, hbel⟩ := hrel
    by_cases hlt : k < l.length
    · have x0 : wr.cell? ⟨b, off + k * 2, none⟩ = some (.int .i64 l[k].1) := by rw [hbel.cell (p := ⟨b, off + k * 2, none⟩) hb]; exact (hc k hlt).1
      have x1 : wr.cell? ⟨b, off + k * 2 + 1, none⟩ = some (.int .i64 l[k].2) := by rw [hbel.cell (p := ⟨b, off + k * 2 + 1, none⟩) hb]; exact (hc k hlt).2
      obtain ⟨o1, o2, o3, o4⟩ := hv.1 l[k] (List.getElem_mem hlt)
      have hK' : Known (D.put (.int .i64 l[k].1) (.lit (.int .i64 l[k].2))) (mx (l.take (k + 1))) := (hK.put l[k].1 l[k].2 (by omega)).congr (fun x => (mx_step hv k hlt x).symm)
      have hkey : keyOf Try.prog 3 (.int .i64 l[k].1) = some (.int .i64 l[k].1) := keyOf_int_mk Try.underlying3 (wf_small _ (by omega) (by omega))
      have helem : plainElem (H := Unit) Try.prog 3 (.int .i64 l[k].2) = some (.lit (.int .i64 l[k].2), []) := plainElem_int Try.underlying3 (wf_small _ (by omega) (by omega))
      go_wp2_with (first | (at_mapUpdate; refine wpList_mapUpdate_own _ rfl _ _ _ 38 rfl 3 3 law3 Try.underlying38 _ w.heap.size k _ rfl (hown.alloc _) (by unfold maxLen; omega) _ _ _ rfl rfl hkey _ [] helem ?_; intro w1 hown1 hgrow1) | go_in)
      go_roundw
      case rel => exact ⟨k + 1, _, hlt, by go_num, hown1, hK', (hbel.alloc hbel.size _).grown hgrow1 (by have := hbel.size; simp; omega) (fun j hj => by cases hj; exact Nat.le_refl _)⟩
      case measure => simp [RowKit.intOf]; omega
    · obtain rfl : k = l.length := by omega
      rw [List.take_length] at hK
      have HK : Hid (Known D (mx l)) := hK
      clear hK
      go_wp2
      go_ret
      exact ⟨rfl, ⟨D, hown, HK.out⟩, hbel⟩

theorem seqs_any (v : Value) (l : List Ref) (w : World) (h : IsRefs w v l) (hv : Valid l) : Calls Try.prog 10 #[v] w fun e w' => e = .returned (.map (some w.heap.size)) ∧ MapIs w' w.heap.size l.length (mx l) ∧ Below w.heap.size w w' := by
  rcases h with ⟨a, c, rfl, rfl⟩ | ⟨b, off, cap, rfl, h1, _, h3⟩
  · exact seqs_none a c w
  · exact seqs_some b off cap l w hv h1 h3

set_option maxHeartbeats 400000 in
theorem same_none (a a' : Option Addr) (c c' : Nat) (w : World) : Calls Try.prog 8 #[.slice a 0 c, .slice a' 0 c'] w fun e w' => e = .returned (.bool true) ∧ Below w.heap.size w w' := by
  go_enter Try.func8, Try.ntmps8
  go_wp2
  refine wp_loop_rounds 1 ?_
  rw [rounds_succ]
  go_wp2
  go_ret
  exact ⟨rfl, Below.refl _ _⟩

set_option maxHeartbeats 400000 in
theorem same_some (b off cap b' off' cap' : Nat) (l : List Ref) (w : World) (hl : l.length ≤ 8796093022208)
    (hc : ∀ i (h : i < l.length), w.cell? ⟨b, off + i * 2, none⟩ = some (.int .i64 l[i].1) ∧ w.cell? ⟨b, off + i * 2 + 1, none⟩ = some (.int .i64 l[i].2))
    (hc' : ∀ i (h : i < l.length), w.cell? ⟨b', off' + i * 2, none⟩ = some (.int .i64 l[i].1) ∧ w.cell? ⟨b', off' + i * 2 + 1, none⟩ = some (.int .i64 l[i].2)) :
    Calls Try.prog 8 #[.slice (some ⟨b, off, none⟩) l.length cap, .slice (some ⟨b', off', none⟩) l.length cap'] w fun e w' => e = .returned (.bool true) ∧ Below w.heap.size w w' := by
  go_enter Try.func8, Try.ntmps8
  go_wp2
  go_loopw [5] (fun i wr => ∃ (k n : Nat), k ≤ l.length ∧ i = .int .i64 k ∧ wr = w.drewN n) (fun i _ => l.length - (RowKit.intOf i).toNat)
  case atStart => exact ⟨0, 0, Nat.zero_le _, rfl, rfl⟩
  case round =>
    obtain ⟨k, n, hk, rfl, rfl⟩ := hrel
    by_cases hlt : k < l.length
    · obtain ⟨x0, x1⟩ := hc k hlt
      obtain ⟨y0, y1⟩ := hc' k hlt
      have j1 : (0 : Int) ≤ (k : Int) := by omega
      have j2 : (k : Int) < (l.length : Int) := by omega
      clear hc hc'
      go_wp2
      go_quiet (fail)
      go_wp2
      go_roundw
      case rel => exact ⟨k + 1, n + nq, hlt, by go_num, rfl⟩
      case measure => simp [RowKit.intOf]; omega
    · clear hc hc'
      go_wp2
      go_ret
      exact ⟨rfl, below_drew (Below.refl _ _) n⟩

theorem same_yes (v u : Value) (l : List Ref) (w : World) (h : IsRefs w v l) (k : IsRefs w u l) : Calls Try.prog 8 #[v, u] w fun e w' => e = .returned (.bool true) ∧ Below w.heap.size w w' := by
  by_cases h0 : l = []
  · have e1 : ∀ {x : Value}, IsRefs w x l → ∃ a c, x = .slice a 0 c := by
      intro x hx
      rcases hx with ⟨a, c, rfl, _⟩ | ⟨b, off, cap, rfl, _⟩
      · exact ⟨a, c, rfl⟩
      · exact ⟨_, _, by rw [h0]; rfl⟩
    obtain ⟨a, c, rfl⟩ := e1 h
    obtain ⟨a', c', rfl⟩ := e1 k
    exact same_none a a' c c' w
  · rcases h with ⟨_, _, _, e⟩ | ⟨b, off, cap, rfl, _, h2, h3⟩
    · exact absurd e h0
    · rcases k with ⟨_, _, _, e⟩ | ⟨b', off', cap', rfl, _, _, k3⟩
      · exact absurd e h0
      · exact same_some b off cap b' off' cap' l w h2 h3 k3
end Go.Proofs.Ytgiggobpbddlbaa
