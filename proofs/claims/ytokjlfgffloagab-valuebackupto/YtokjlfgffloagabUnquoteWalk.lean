/-
  What is proved: package value's Unquote, called with any text that is not too long, returns what it begins with, and how many bytes that has, or the error that it does not begin so; and nothing that was there has turned.
  Conditions: the text has at most 8000000 bytes.
-/
import Derived.Test.YtokjlfgffloagabFirstWalk
namespace Go.Proofs.Ytokjlfgffloagab
open Go.RowKit

/-- What Unquote hands back. -/
def unqV : Option (List UInt8 × Nat) → Value
  | none => .tuple #[.string ⟨#[]⟩, .int .i64 0, .iface 42 (.int .i64 2)]
  | some (l, n) => .tuple #[.string ⟨l.toArray⟩, .int .i64 n, .nilIface]

theorem Holds.drewN {B b : Nat} {l : List UInt8} {w : World} (h : Holds B b l w) (m : Nat) : Holds B b l (w.drewN m) := h
theorem is_drewN {B b : Nat} {l : List Value} {w : World} (h : Lib.IsBuilder 38 5 B b l w) (m : Nat) : Lib.IsBuilder 38 5 B b l (w.drewN m) := h
theorem Below.drewN {B : Nat} {a w : World} (h : Below B a w) (m : Nat) : Below B a (w.drewN m) := ⟨h.os, h.tape, h.output, h.size, h.block⟩

theorem drop_at (s : ByteArray) (k : Nat) (h : k < s.size) : s.data.toList.drop k = s[k] :: s.data.toList.drop (k + 1) :=
  List.drop_eq_getElem_cons (by rw [Array.length_toList]; exact h)

theorem ex_drop (s : ByteArray) (k : Nat) : (s.extract k s.size).data.toList = s.data.toList.drop k := by
  rw [ByteArray.data_extract, Array.toList_extract, List.extract_eq_take_drop]
  apply List.take_of_length_le
  rw [List.length_drop, Array.length_toList]
  exact Nat.le_refl _

theorem ex_size (s : ByteArray) (k : Nat) (h : k < s.size) : 0 < (s.extract k s.size).size := by
  rw [ByteArray.size_extract]
  omega

theorem first_le (l : List UInt8) : (first l).2 ≤ l.length := by
  match l with
  | [] => simp [first]
  | c :: r =>
    by_cases hp : hexB c = false ∧ maskB c = false
    · rw [first_p hp]; simp
    by_cases h : c.toNat = 92
    · match r with
      | [] => rw [first_1 hp h]; simp
      | d :: r' =>
        cases hk : maskB d with
        | true => rw [first_m hp h hk]; simp
        | false =>
          match r' with
          | [] => rw [first_2 hp h hk]; simp
          | e :: r'' => rw [first_3 hp h hk]; split <;> simp
    · rw [first_o hp h]; simp

set_option maxHeartbeats 1000000 in
theorem unquote_any (s : ByteArray) (w : World) (hs : s.size ≤ 8000000) :
    Calls Try.prog 6 #[.string s] w fun e w' => e = .returned (unqV (unq s.data.toList)) ∧ Below w.heap.size w w' := by
  have Hp := Try.hasPrefix s ⟨#[34]⟩
  by_cases h0 : 0 < s.size
  · obtain ⟨r, er, hr⟩ := list1 s h0
    by_cases h34 : s[0].toNat = 34
    · have hp : Lib.hasPrefix s.data.toList [34] = true := by
        have e0 : s[0] = 34 := UInt8.toNat_inj.1 h34
        rw [er, e0]
        simp [Lib.hasPrefix]
      have hu : unq s.data.toList = run (r.length + 1) [] (s.data.toList.drop 1) 1 := by
        rw [er, unq, if_pos h34]
        rfl
      rw [show (⟨#[34]⟩ : ByteArray).data.toList = [34] from rfl, hp] at Hp
      clear hp h34
      generalize hU : unq s.data.toList = U at *
      go_enter Try.func6, Try.ntmps6
      go_wp2_with (go_at_call 12; refine (Hp _).mono ?_; rintro e w' ⟨rfl, hw⟩; subst w')
      have R0 : Hid (∃ f, (s.data.toList.drop 1).length < f ∧ run f [] (s.data.toList.drop 1) 1 = U) := by
        refine ⟨r.length + 1, ?_, hu.symm⟩
        rw [List.length_drop, Array.length_toList]
        exact Nat.lt_succ_of_le (Nat.le_of_eq hr.symm)
      clear hu hU er
      go_loopw [6] (fun i wr => ∃ (k : Nat) (acc : List UInt8), 1 ≤ k ∧ k ≤ s.size ∧ i = .int .i64 k ∧ acc.length < k ∧ Lib.IsBuilder 38 5 w.heap.size w.heap.size (Lib.byteCells acc) wr ∧ Below w.heap.size w wr ∧ Hid (∃ f, (s.data.toList.drop k).length < f ∧ run f acc (s.data.toList.drop k) k = U)) (fun i _ => s.size - (RowKit.intOf i).toNat)
      case atStart => exact ⟨1, [], by omega, h0, rfl, by simp, Lib.fresh_isBuilder _ _ w, (Below.refl _ _).alloc (Nat.le_refl _) _, R0⟩
      case round =>
        clear R0
        obtain ⟨k, acc, k1, k2, rfl, hacc, hb, hbel, hR⟩ := hrel
        have hz := hbel.size
        by_cases hlt : k < s.size
        · have hd := drop_at s k hlt
          by_cases h34 : s[k].toNat = 34
          · have HU : Hid (U = some (acc, k + 1)) := by
              obtain ⟨f, hf, e⟩ := hR
              cases f with
              | zero => omega
              | succ f =>
                rw [hd, run, if_pos h34] at e
                exact e.symm
            clear hR hd
            have W := Try.builderString w.heap.size w.heap.size acc wr hb hz
            have g1 : (k : Int) < s.size := by omega
            go_wp2_with (go_at_call 11; refine W.mono ?_; rintro e w3 ⟨rfl, b3⟩)
            go_returns
            rw [HU.out]
            exact ⟨rfl, hbel.trans b3⟩
          · have F := first_any (s.extract k s.size)
            have hle := first_le (s.data.toList.drop k)
            rw [ex_drop] at F
            have HR : Hid (∃ f, (s.data.toList.drop k).length < f + 1 ∧ (if (first (s.data.toList.drop k)).2 = 0 then none else run f (acc ++ [(first (s.data.toList.drop k)).1]) ((s.data.toList.drop k).drop (first (s.data.toList.drop k)).2) (k + (first (s.data.toList.drop k)).2)) = U) := by
              obtain ⟨f, hf, e⟩ := hR
              cases f with
              | zero => omega
              | succ f =>
                refine ⟨f, hf, ?_⟩
                rw [hd, run, if_neg h34] at e
                rw [hd]
                exact e
            have hlen : (s.data.toList.drop k).length = s.size - k := by rw [List.length_drop, Array.length_toList]; rfl
            rw [List.drop_drop] at HR
            rw [hlen] at HR hle
            generalize first (s.data.toList.drop k) = x at *
            obtain ⟨c, n⟩ := x
            dsimp only at HR hle
            unfold pair at F
            dsimp only at F
            clear hR hd hlen
            have g1 : (k : Int) < s.size := by omega
            have g2 : (0 : Int) ≤ k := by omega
            have g3 : (k : Int) ≤ s.size := by omega
            have g4 : ((s[k].toNat : Int) == 34) = false := by rw [beq_eq_false_iff_ne]; omega
            have hex := ex_size s k hlt
            by_cases hn : n = 0
            · subst hn
              have HU : Hid (U = none) := by
                obtain ⟨f, _, e⟩ := HR
                show U = none
                simpa using e.symm
              clear HR
              go_wp2_with (go_at_call 13; refine (F _ hex).mono ?_; rintro e w2 ⟨rfl, m, hw⟩; subst w2)
              go_returns
              rw [HU.out]
              exact ⟨rfl, Below.drewN hbel m⟩
            · have HU : Hid (∃ f, (s.data.toList.drop (k + n)).length < f ∧ run f (acc ++ [c]) (s.data.toList.drop (k + n)) (k + n) = U) := by
                obtain ⟨f, hf, e⟩ := HR
                rw [if_neg hn] at e
                refine ⟨f, ?_, e⟩
                rw [List.length_drop, Array.length_toList]
                show s.size - (k + n) < f
                omega
              clear HR
              have g5 : ¬ (n : Int) = 0 := by omega
              have g6 : (n : Int) ≤ s.size := by omega
              have g7 : (k : Int) + n ≤ 8000000 := by omega
              go_wp2_with (first
                | (go_at_call 13; refine (F _ hex).mono ?_; rintro e w2 ⟨rfl, m, hw⟩; subst w2)
                | (go_at_call 9; refine (write_any w.heap.size w.heap.size acc c _ (is_drewN hb m) (by omega) hz).mono ?_; rintro e w3 ⟨rfl, h3, b3⟩))
              go_roundw
              case rel => exact ⟨k + n, acc ++ [c], by omega, by omega, by go_num, by simp; omega, Or.inr h3, (Below.drewN hbel m).trans b3, HU⟩
              case measure => simp [RowKit.intOf]; omega
        · have hke : k = s.size := by omega
          have HU : Hid (U = none) := by
            obtain ⟨f, hf, e⟩ := hR
            have hd : s.data.toList.drop k = [] := List.drop_of_length_le (by rw [Array.length_toList]; show s.size ≤ k; omega)
            rw [hd] at e
            show U = none
            cases f with
            | zero => simpa [run] using e.symm
            | succ f => simpa [run] using e.symm
          clear hR
          subst hke
          clear hlt
          go_wp2
          go_returns
          rw [HU.out]
          exact ⟨rfl, hbel⟩
    · have hp : Lib.hasPrefix s.data.toList [34] = false := by
        have e0 : ¬ s[0] = 34 := fun e => h34 (by rw [e]; rfl)
        rw [er]
        simp only [Lib.hasPrefix, List.isPrefixOf, Bool.and_eq_false_iff]
        exact Or.inl (beq_eq_false_iff_ne.2 (Ne.symm e0))
      have hu : unq s.data.toList = none := by
        rw [er, unq, if_neg h34]
      rw [show (⟨#[34]⟩ : ByteArray).data.toList = [34] from rfl, hp] at Hp
      rw [hu]
      unfold unqV
      dsimp only
      clear hp h34 hu er
      go_enter Try.func6, Try.ntmps6
      go_wp2_with (go_at_call 12; refine (Hp _).mono ?_; rintro e w' ⟨rfl, hw⟩; subst w')
      go_returns
      exact ⟨rfl, Below.refl _ _⟩
  · have hn : s.data.toList = [] := List.length_eq_zero_iff.1 (by rw [Array.length_toList]; show s.size = 0; omega)
    rw [show (⟨#[34]⟩ : ByteArray).data.toList = [34] from rfl, hn] at Hp
    have hp : Lib.hasPrefix [] [34] = false := rfl
    rw [hp] at Hp
    rw [hn]
    unfold unq unqV
    dsimp only
    clear hp hn
    go_enter Try.func6, Try.ntmps6
    go_wp2_with (go_at_call 12; refine (Hp _).mono ?_; rintro e w' ⟨rfl, hw⟩; subst w')
    go_returns
    exact ⟨rfl, Below.refl _ _⟩
end Go.Proofs.Ytokjlfgffloagab
