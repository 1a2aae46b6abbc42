/-
  What is proved: the law ValueBack, called with any two texts that are not too long, returns true, and nothing that was there has turned.
  Conditions: each text has at most 1048576 bytes.
-/
import Derived.Test.YtokjlfgffloagabUnquoteWalk
namespace Go.Proofs.Ytokjlfgffloagab
open Go.RowKit

theorem fact_quote : (⟨(quote [97, 34, 10]).toArray⟩ : ByteArray) = ⟨#[34, 97, 92, 34, 92, 48, 97, 34]⟩ := by decide

theorem quote_len (l : List UInt8) : (quote l).length ≤ 3 * l.length + 2 := by
  have := escs_len l
  simp [quote]
  omega

theorem join_list (l : List UInt8) (m : ByteArray) : ((⟨l.toArray⟩ : ByteArray) ++ m).data.toList = l ++ m.data.toList := by
  rw [ByteArray.data_append]
  simp

set_option maxHeartbeats 1000000 in
theorem back_any (s m : ByteArray) (w : World) (hs : s.size ≤ 1048576) (hm : m.size ≤ 1048576) :
    Calls Try.prog 3 #[.string s, .string m] w fun e w' => e = .returned (.bool true) ∧ Below w.heap.size w w' := by
  have Q0 := quote_any ⟨#[97, 34, 10]⟩
  have Q1 := quote_any s
  have hql := quote_len s.data.toList
  have hqp := quote_print s.data.toList
  have U := unquote_any ((⟨(quote s.data.toList).toArray⟩ : ByteArray) ++ m)
  have hsl : s.data.toList.length = s.size := Array.length_toList
  rw [join_list, unq_quote] at U
  rw [show (⟨#[97, 34, 10]⟩ : ByteArray).data.toList = [97, 34, 10] from rfl, fact_quote] at Q0
  unfold unqV at U
  dsimp only at U
  have hse : (⟨s.data.toList.toArray⟩ : ByteArray) = s := by simp
  rw [hse] at U
  have hqs : (⟨(quote s.data.toList).toArray⟩ : ByteArray).size = (quote s.data.toList).length := by simp [ByteArray.size]
  have hjs : ((⟨(quote s.data.toList).toArray⟩ : ByteArray) ++ m).size = (quote s.data.toList).length + m.size := by rw [ByteArray.size_append, hqs]
  have hpr : ∀ i (h : i < (⟨(quote s.data.toList).toArray⟩ : ByteArray).size), 32 ≤ (⟨(quote s.data.toList).toArray⟩ : ByteArray)[i].toNat ∧ (⟨(quote s.data.toList).toArray⟩ : ByteArray)[i].toNat ≤ 126 := by
    intro i h
    refine hqp _ ?_
    have : (⟨(quote s.data.toList).toArray⟩ : ByteArray)[i] = (quote s.data.toList)[i]'(by rw [← hqs]; exact h) := rfl
    rw [this]
    exact List.getElem_mem _
  rw [← hqs] at hjs hql U
  clear hqp hse
  generalize (⟨(quote s.data.toList).toArray⟩ : ByteArray) = q at *
  clear hqs
  have HP : Hid (∀ i (h : i < q.size), 32 ≤ q[i].toNat ∧ q[i].toNat ≤ 126) := hpr
  clear hpr
  go_enter Try.func3, Try.ntmps3
  go_wp2_with fail
  refine (Q0 _ (by decide)).mono ?_
  rintro e w1 ⟨rfl, b1⟩
  clear Q0
  go_wp2_with fail
  refine (Q1 _ (by omega)).mono ?_
  rintro e w2 ⟨rfl, b2⟩
  have B2 : Below w.heap.size w w2 := b1.trans (b2.mono b1.size)
  clear Q1 b1 b2
  go_wp2_with fail
  go_loop [7] (fun i => ∃ k : Nat, k ≤ q.size ∧ i = .int .i64 k) (fun i => q.size - (RowKit.intOf i).toNat)
  case atStart => exact ⟨0, Nat.zero_le _, rfl⟩
  case round =>
    obtain ⟨k, hk, rfl⟩ := hrel
    by_cases hlt : k < q.size
    · have hp := HP.out k hlt
      have g1 : (k : Int) < q.size := by omega
      have g2 : ¬ (q[k].toNat : Int) < 32 := by omega
      have g3 : ¬ (126 : Int) < q[k].toNat := by omega
      clear hp HP U
      go_wp2
      go_round
      case rel => exact ⟨k + 1, hlt, by go_num⟩
      case measure => simp [RowKit.intOf]; omega
    · have hke : k = q.size := by omega
      have hbig : (q ++ m).size ≤ 8000000 := by omega
      have hbig2 : q.size + m.size ≤ 8000000 := by omega
      clear HP hjs hql
      subst hke
      clear hlt hk
      go_wp2_with fail
      refine (U _ hbig).mono ?_
      rintro e w3 ⟨rfl, b3⟩
      have B3 : Below w.heap.size w w3 := B2.trans (b3.mono B2.size)
      clear U b3 B2
      go_wp2
      go_ret
      exact ⟨by simp, B3⟩
end Go.Proofs.Ytokjlfgffloagab
