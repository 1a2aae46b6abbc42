/-
  What is proved: the functions isActor, isNum, Refs and bothRefs of package id, called with any refs, tell whether they are a clock, and nothing that was there has turned.
  Conditions: the lists lie in memory, no longer than a row's reach.
-/
import Derived.Test.YtgiggobpbddlbaaProg
import Derived.Test.YtgiggobpbddlbaaClocks
import Derived.WalkKit
import Derived.WalkSpells
import Derived.WalkLawsBesides
import Derived.Deep.QuietTactic
import Derived.BigQuiet
namespace Go.Proofs.Ytgiggobpbddlbaa
open Go.RowKit

/-- A slice value that holds refs. -/
def IsRefs (w : World) (v : Value) (l : List Ref) : Prop :=
  (∃ a c, v = .slice a 0 c ∧ l = []) ∨ ∃ b off cap : Nat, v = .slice (some ⟨b, off, none⟩) l.length cap ∧ b < w.heap.size ∧ l.length ≤ 8796093022208 ∧
    ∀ i (h : i < l.length), w.cell? ⟨b, off + i * 2, none⟩ = some (.int .i64 l[i].1) ∧ w.cell? ⟨b, off + i * 2 + 1, none⟩ = some (.int .i64 l[i].2)

theorem IsRefs.below {w w' : World} {v : Value} {l : List Ref} (h : IsRefs w v l) (hb : Below w.heap.size w w') : IsRefs w' v l := by
  rcases h with h | ⟨b, off, cap, rfl, h1, h2, h3⟩
  · exact Or.inl h
  · refine Or.inr ⟨b, off, cap, rfl, Nat.lt_of_lt_of_le h1 hb.size, h2, fun i hi => ⟨?_, ?_⟩⟩
    · rw [hb.cell (p := ⟨b, off + i * 2, none⟩) h1]; exact (h3 i hi).1
    · rw [hb.cell (p := ⟨b, off + i * 2 + 1, none⟩) h1]; exact (h3 i hi).2

/-- What Refs answers. -/
def Ans (l : List Ref) (ev : Value) : Prop := (Valid l ∧ ev = .nilIface) ∨ (¬ Valid l ∧ ∃ x, ev = .iface 23 (.int .i64 x))

set_option maxHeartbeats 400000 in
theorem refs_none (a : Option Addr) (c : Nat) (w : World) : Calls Try.prog 14 #[.slice a 0 c] w fun e w' => (∃ ev, e = .returned ev ∧ Ans [] ev) ∧ Below w.heap.size w w' := by
  go_enter Try.func14, Try.ntmps14
  go_wp2
  refine wp_loop_rounds 1 ?_
  rw [rounds_succ]
  go_wp2
  refine wp_loop_rounds 1 ?_
  rw [rounds_succ]
  go_wp2
  go_ret
  exact ⟨⟨_, rfl, Or.inl ⟨⟨by simp, List.Pairwise.nil⟩, rfl⟩⟩, Below.refl _ _⟩

theorem below_drew {B : Nat} {w wr : World} (h : Below B w wr) (n : Nat) : Below B w (wr.drewN n) := ⟨h.os, h.tape, h.output, h.size, h.block⟩

/-- The first so many rise. -/
def Rise (l : List Ref) (j : Nat) : Prop := ∀ i (h : i + 1 < l.length), i < j → l[i].1 < l[i + 1].1

theorem Rise.step {l : List Ref} {j : Nat} (h : Rise l j) (hlt : j + 1 < l.length) (hr : l[j].1 < l[j + 1].1) : Rise l (j + 1) := by
  intro i h1 h2
  by_cases e : i = j
  · subst e; exact hr
  · exact h i h1 (by omega)

theorem pairwise_of_rise : ∀ (l : List Ref), (∀ i (h : i + 1 < l.length), l[i].1 < l[i + 1].1) → l.Pairwise (fun p q => p.1 < q.1)
  | [], _ => List.Pairwise.nil
  | [p], _ => by simp
  | p :: q :: r, h => by
    have ih := pairwise_of_rise (q :: r) (fun i hi => h (i + 1) (by simpa using hi))
    rw [List.pairwise_cons]
    refine ⟨fun x hx => ?_, ih⟩
    have h0 := h 0 (by simp)
    simp at h0
    rcases List.mem_cons.1 hx with e | e
    · subst e; exact h0
    · rw [List.pairwise_cons] at ih
      have := ih.1 x e
      omega

set_option maxHeartbeats 400000 in
theorem refs_some (b off cap : Nat) (l : List Ref) (w : World) (hb : b < w.heap.size) (hl : l.length ≤ 8796093022208)
    (hc : ∀ i (h : i < l.length), w.cell? ⟨b, off + i * 2, none⟩ = some (.int .i64 l[i].1) ∧ w.cell? ⟨b, off + i * 2 + 1, none⟩ = some (.int .i64 l[i].2)) :
    Calls Try.prog 14 #[.slice (some ⟨b, off, none⟩) l.length cap] w fun e w' => (∃ ev, e = .returned ev ∧ Ans l ev) ∧ Below w.heap.size w w' := by
  go_enter Try.func14, Try.ntmps14
  go_wp2
  go_loopw [8] (fun i wr => ∃ k : Nat, k ≤ l.length ∧ i = .int .i64 k ∧ (∀ p ∈ l.take k, OkRef p) ∧ Below w.heap.size w wr) (fun i _ => l.length - (RowKit.intOf i).toNat)
  case atStart => exact ⟨0, Nat.zero_le _, rfl, by simp, Below.refl _ _⟩
  case round =>
    obtain ⟨k, hk, rfl, hok, hbel⟩ := hrel
    by_cases hlt : k < l.length
    · have x0 : wr.cell? ⟨b, off + k * 2, none⟩ = some (.int .i64 l[k].1) := by rw [hbel.cell (p := ⟨b, off + k * 2, none⟩) hb]; exact (hc k hlt).1
      have x1 : wr.cell? ⟨b, off + k * 2 + 1, none⟩ = some (.int .i64 l[k].2) := by rw [hbel.cell (p := ⟨b, off + k * 2 + 1, none⟩) hb]; exact (hc k hlt).2
      by_cases ho : OkRef l[k]
      · have HO : Hid (∀ p ∈ l.take (k + 1), OkRef p) := by
          intro p hp
          rw [List.take_succ_eq_append_getElem hlt] at hp
          rcases List.mem_append.1 hp with h | h
          · exact hok p h
          · rw [List.mem_singleton.1 h]; exact ho
        obtain ⟨o1, o2, o3, o4⟩ := ho
        clear hok
        go_wp2
        go_roundw
        case rel => exact ⟨k + 1, hlt, by go_num, HO.out, hbel.alloc hbel.size _⟩
        case measure => simp [RowKit.intOf]; omega
      · have HN : Hid (¬ Valid l) := fun hv => ho (hv.1 _ (List.getElem_mem hlt))
        have HB := hbel.alloc hbel.size (.cells #[.int .i64 l[k].1, .int .i64 l[k].2] 32)
        clear hok
        unfold OkRef at ho
        go_wp2
        all_goals first
          | (go_ret; exact ⟨⟨_, rfl, Or.inr ⟨HN.out, 1, rfl⟩⟩, HB⟩)
          | exact absurd ⟨by assumption, by assumption, by assumption, by simpa using (show (!decide (l[k].2 ≤ 1000000)) = false by assumption)⟩ ho
    · have hall : ∀ p ∈ l, OkRef p := by rw [List.take_of_length_le (by omega)] at hok; exact hok
      clear hok
      have hke : k = l.length := by omega
      subst hke
      clear hlt hk
      go_wp2
      go_loopw [5] (fun i w2 => ∃ j : Nat, (j = 0 ∨ j + 1 ≤ l.length) ∧ i = .int .i64 ((j + 1 : Nat) : Int) ∧ Rise l j ∧ Below w.heap.size w w2) (fun i _ => l.length - (RowKit.intOf i).toNat)
      case atStart => exact ⟨0, Or.inl rfl, rfl, fun i h1 h2 => by omega, hbel⟩
      case round =>
        obtain ⟨j, hj, rfl, hR, hb2⟩ := hrel
        by_cases hlt : j + 1 < l.length
        · have y0 : wr.cell? ⟨b, off + j * 2, none⟩ = some (.int .i64 l[j].1) := by rw [hb2.cell (p := ⟨b, off + j * 2, none⟩) hb]; exact (hc j (by omega)).1
          have y1 : wr.cell? ⟨b, off + (j + 1) * 2, none⟩ = some (.int .i64 l[j + 1].1) := by rw [hb2.cell (p := ⟨b, off + (j + 1) * 2, none⟩) hb]; exact (hc (j + 1) hlt).1
          have j1 : (0 : Int) ≤ (j : Int) := by omega
          have j2 : (j : Int) < (l.length : Int) := by omega
          have j3 : (j : Int) + 1 < (l.length : Int) := by omega
          by_cases hr : l[j].1 < l[j + 1].1
          · have HR : Hid (Rise l (j + 1)) := hR.step hlt hr
            clear hR
            have hd : decide (l[j + 1].1 ≤ l[j].1) = false := by simpa using hr
            go_wp2
            go_quiet (fail)
            go_wp2
            go_roundw
            case rel => exact ⟨j + 1, Or.inr hlt, by go_num, HR.out, below_drew hb2 nq⟩
            case measure => simp [RowKit.intOf]; omega
          · have HN : Hid (¬ Valid l) := fun hv => hr (List.pairwise_iff_getElem.1 hv.2 j (j + 1) (by omega) hlt (by omega))
            have hd : decide (l[j + 1].1 ≤ l[j].1) = true := by simpa using hr
            clear hR
            go_wp2
            go_quiet (fail)
            go_wp2
            go_ret
            exact ⟨⟨_, rfl, Or.inr ⟨HN.out, 5, rfl⟩⟩, below_drew hb2 nq⟩
        · have HV : Hid (Valid l) := ⟨hall, pairwise_of_rise l (fun i h => hR i h (by omega))⟩
          clear hR
          have j3 : ¬ (j : Int) + 1 < (l.length : Int) := by omega
          go_wp2
          go_ret
          exact ⟨⟨_, rfl, Or.inl ⟨HV.out, rfl⟩⟩, hb2⟩

theorem refs_any (v : Value) (l : List Ref) (w : World) (h : IsRefs w v l) : Calls Try.prog 14 #[v] w fun e w' => (∃ ev, e = .returned ev ∧ Ans l ev) ∧ Below w.heap.size w w' := by
  rcases h with ⟨a, c, rfl, rfl⟩ | ⟨b, off, cap, rfl, h1, h2, h3⟩
  · exact refs_none a c w
  · exact refs_some b off cap l w h1 h2 h3

theorem refs_yes (v : Value) (l : List Ref) (w : World) (h : IsRefs w v l) (hv : Valid l) : Calls Try.prog 14 #[v] w fun e w' => e = .returned .nilIface ∧ Below w.heap.size w w' := by
  refine (refs_any v l w h).mono ?_
  rintro e w' ⟨⟨ev, rfl, ⟨_, rfl⟩ | ⟨hn, _⟩⟩, hb⟩
  · exact ⟨rfl, hb⟩
  · exact absurd hv hn

theorem refs_no (v : Value) (l : List Ref) (w : World) (h : IsRefs w v l) (hv : ¬ Valid l) : Calls Try.prog 14 #[v] w fun e w' => (∃ x, e = .returned (.iface 23 (.int .i64 x))) ∧ Below w.heap.size w w' := by
  refine (refs_any v l w h).mono ?_
  rintro e w' ⟨⟨ev, rfl, ⟨hn, _⟩ | ⟨_, x, rfl⟩⟩, hb⟩
  · exact absurd hn hv
  · exact ⟨⟨x, rfl⟩, hb⟩

set_option maxHeartbeats 400000 in
theorem both_yes (v u : Value) (l r : List Ref) (w : World) (h : IsRefs w v l) (k : IsRefs w u r) (hv : Valid l) (hu : Valid r) : Calls Try.prog 9 #[v, u] w fun e w' => e = .returned .nilIface ∧ Below w.heap.size w w' := by
  go_enter Try.func9, Try.ntmps9
  go_wp2_with fail
  refine (refs_yes v l _ h hv).mono ?_
  rintro e w1 ⟨rfl, hb1⟩
  go_wp2_with fail
  refine (refs_yes u r _ (k.below hb1) hu).mono ?_
  rintro e w2 ⟨rfl, hb2⟩
  go_wp2
  go_ret
  exact ⟨rfl, hb1.trans (hb2.mono hb1.size)⟩

set_option maxHeartbeats 400000 in
theorem both_no (v u : Value) (l r : List Ref) (w : World) (h : IsRefs w v l) (k : IsRefs w u r) (hv : ¬ (Valid l ∧ Valid r)) : Calls Try.prog 9 #[v, u] w fun e w' => (∃ x, e = .returned (.iface 23 (.int .i64 x))) ∧ Below w.heap.size w w' := by
  by_cases h1 : Valid l
  · have h2 : ¬ Valid r := fun e => hv ⟨h1, e⟩
    go_enter Try.func9, Try.ntmps9
    go_wp2_with fail
    refine (refs_yes v l _ h h1).mono ?_
    rintro e w1 ⟨rfl, hb1⟩
    go_wp2_with fail
    refine (refs_no u r _ (k.below hb1) h2).mono ?_
    rintro e w2 ⟨⟨x, rfl⟩, hb2⟩
    go_wp2
    go_ret
    exact ⟨⟨x, rfl⟩, hb1.trans (hb2.mono hb1.size)⟩
  · go_enter Try.func9, Try.ntmps9
    go_wp2_with fail
    refine (refs_no v l _ h h1).mono ?_
    rintro e w1 ⟨⟨x, rfl⟩, hb1⟩
    go_wp2
    go_ret
    exact ⟨⟨x, rfl⟩, hb1⟩
end Go.Proofs.Ytgiggobpbddlbaa
