/-
  What is proved: the function areKeys of package json answers whether keys rise by bytes, none being empty or longer than 20.
  Conditions: the keys lie in memory.
-/
import Derived.Test.YtegbjkjeoegfbaaDoorJTree
import Derived.Sort.Walk0
import Derived.Deep.CutBlock
namespace Go.Proofs.YtegbjkjeoegfbaaDoor
open Go.RowKit Go.Sort

/-- Keys that rise behind a text, none of them too long. -/
def upB : List UInt8 → List ByteArray → Bool
  | _, [] => true
  | p, k :: r => decide (p < k.toList) && (decide (k.size ≤ 20) && upB k.toList r)

theorem upB_cons (p : List UInt8) (k : ByteArray) (r : List ByteArray) : upB p (k :: r) = (decide (p < k.toList) && (decide (k.size ≤ 20) && upB k.toList r)) := rfl
theorem no_bytes : (ByteArray.mk #[]).toList = [] := by
  unfold ByteArray.toList ByteArray.toList.loop
  rfl
theorem leq_no {x y : List UInt8} (h : x < y) : Op.bytesLess y x = false ∧ (y == x) = false := by
  rw [bytesLess_eq]
  refine ⟨decide_eq_false (fun h' => List.lt_irrefl _ (List.lt_trans h h')), ?_⟩
  cases e : y == x with
  | false => rfl
  | true => rw [eq_of_beq e] at h; exact absurd h (List.lt_irrefl _)
theorem leq_yes {x y : List UInt8} (h : ¬ x < y) : Op.bytesLess y x = true ∨ (Op.bytesLess y x = false ∧ (y == x) = true) := by
  rw [bytesLess_eq]
  by_cases h' : y < x
  · exact Or.inl (decide_eq_true h')
  · exact Or.inr ⟨decide_eq_false h', by rw [List.le_antisymm (List.not_lt.1 h) (List.not_lt.1 h')]; exact beq_self_eq_true _⟩

set_option maxRecDepth 100000 in
set_option maxHeartbeats 4000000 in
theorem areKeys_any (v : Value) (ks : List ByteArray) (w : World) (hv : IsStrs w v ks) :
    Calls Tryd.prog 29 #[v] w fun e w' => e = .returned (.bool (upB [] ks)) ∧ Below w.heap.size w w' := by
  obtain ⟨a, cap, rfl, h1, h2, h3⟩ := hv
  have H3 : Hid (ks ≠ [] → ∃ b off, a = some ⟨b, off, none⟩ ∧ _) := h3
  have HZ : Hid (ks.length ≤ cap ∧ ks.length ≤ 8796093022208) := ⟨h1.1, h2⟩
  clear h1 h2 h3
  go_enter Tryd.func29, Tryd.ntmps29
  go_wp2_with fail
  go_loopw [3, 5, 8] (fun p _ i wr => ∃ (j : Nat) (q : ByteArray), j ≤ ks.length ∧ i = .int .i64 j ∧ p = .string q ∧ Hid (upB [] ks = upB q.toList (ks.drop j)) ∧ Below w.heap.size w wr) (fun _ _ i _ => ks.length - (RowKit.intOf i).toNat)
  case atStart => exact ⟨0, _, Nat.zero_le _, rfl, rfl, show upB [] ks = _ by rw [no_bytes]; rfl, Below.refl _ _⟩
  case round =>
    obtain ⟨j, q, hj, rfl, rfl, HU, hbel⟩ := hrel
    have HBW : Hid (Below w.heap.size w wr) := hbel
    by_cases hlt : j < ks.length
    · obtain ⟨b, off, rfl, h4, h5⟩ := H3.out (fun e => by rw [e] at hlt; simp at hlt)
      have x0 : wr.cell? ⟨b, off + j, none⟩ = some (.string ks[j]) := by rw [hbel.cell (p := ⟨b, off + j, none⟩) h4]; exact h5 j hlt
      have g1 : (j : Int) < ks.length := by omega
      have g3 : (j : Int) < 8796093022208 := by have := HZ.out; omega
      have HD : Hid (ks.drop j = ks[j] :: ks.drop (j + 1) ∧ j < ks.length) := ⟨List.drop_eq_getElem_cons hlt, hlt⟩
      generalize ks[j] = s at *
      clear h5 hj hbel hlt
      by_cases hs : q.toList < s.toList
      · obtain ⟨e1, e2⟩ := leq_no hs
        by_cases hn : s.size ≤ 20
        · have g5 : ¬ (20 : Int) < s.size := by omega
          have HN : Hid (q.toList < s.toList ∧ s.size ≤ 20) := ⟨hs, hn⟩
          clear hs hn
          go_wp2
          go_roundw
          case rel =>
            refine ⟨j + 1, s, by have := HD.out; omega, by go_num, rfl, show upB [] ks = _ from ?_, HBW.out⟩
            rw [HU.out, HD.out.1]
            rw [upB_cons, decide_eq_true HN.out.1, decide_eq_true HN.out.2, Bool.true_and, Bool.true_and]
          case measure => simp [RowKit.intOf]; have := HD.out; omega
        · have g5 : (20 : Int) < s.size := by omega
          have HN : Hid (¬ s.size ≤ 20) := hn
          clear hs hn
          go_wp2
          go_ret
          refine ⟨?_, HBW.out⟩
          rw [HU.out, HD.out.1]
          rw [upB_cons]
          rw [decide_eq_false HN.out, Bool.false_and, Bool.and_false]
          rfl
      · have HN : Hid (¬ q.toList < s.toList) := hs
        have HF : Hid (upB [] ks = false) := by
          show upB [] ks = false
          rw [HU.out, HD.out.1]
          rw [upB_cons]
          rw [decide_eq_false hs, Bool.false_and]
        rcases leq_yes hs with e1 | ⟨e1, e2⟩
        · clear hs
          go_wp2
          go_ret
          exact ⟨by rw [HF.out]; rfl, HBW.out⟩
        · clear hs
          go_wp2
          go_ret
          exact ⟨by rw [HF.out]; rfl, HBW.out⟩
    · have g1 : ¬ (j : Int) < ks.length := by omega
      have HE : Hid (ks.drop j = []) := List.drop_eq_nil_of_le (by omega)
      clear hlt hj hbel
      go_wp2
      go_ret
      refine ⟨?_, HBW.out⟩
      rw [HU.out, HE.out]
      rfl
end Go.Proofs.YtegbjkjeoegfbaaDoor
