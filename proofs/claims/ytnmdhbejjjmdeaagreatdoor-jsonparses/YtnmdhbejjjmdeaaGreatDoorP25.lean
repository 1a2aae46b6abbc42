/-
  What is proved: the statements' own package of great numbers reads any digits, with a sign ahead. digits that stand in a text, as bookref3's Tree reads them; a great number stays while the reader goes on.
  Conditions: as each theorem says.
-/
import Derived.Test.YtnmdhbejjjmdeaaGreatDoorP24
import Derived.Test.YtnmdhbejjjmdeaaGreatDoorP11
import Derived.Test.YtnmdhbejjjmdeaaGreatDoorP22
namespace Go.Proofs.YtnmdhbejjjmdeaaGreatDoor
open Go.RowKit

/-- What SetString leaves. -/
def SetP (w : World) (p : Nat) (l : List UInt8) (e : Ending) (w' : World) : Prop :=
  (match sstr l with
   | none => e = .returned (.tuple #[.pointer none, .bool false])
   | some (ng, u) => e = .returned (.tuple #[.pointer (some ⟨p, 0, none⟩), .bool true]) ∧ NumAt w' p (ng && decide (0 < u)) u) ∧ Below p w w'
theorem pow_L {a k : Nat} (h : a < 10 ^ k) : a < 4294967296 ^ (k + 1) ∧ a * 10 < 4294967296 ^ (k + 1) ∧ 100 < 4294967296 ^ (k + 1) := by
  have h1 : (10 : Nat) ^ k ≤ 4294967296 ^ k := Nat.pow_le_pow_left (by omega) k
  have h2 : 0 < (4294967296 : Nat) ^ k := Nat.pow_pos (by omega)
  rw [Nat.pow_succ]
  omega
theorem pow_dg {a k d : Nat} (h : a < 10 ^ k) (hd : d ≤ 57) : a * 10 + (d - 48) < 10 ^ (k + 1) := by
  rw [Nat.pow_succ]
  omega
theorem wrap_nx {k k1 : Nat} (h : k < 60000) (h1 : k + 1 = k1) : wrap64 ((k : Int) + 1) = (k1 : Int) := by
  unfold wrap64
  omega
theorem mem_at (q : ByteArray) (k : Nat) (h : k < q.size) : q[k] ∈ q.data.toList := by
  have := drop_at q k h
  exact List.mem_of_mem_drop (i := k) (by rw [this]; exact List.mem_cons_self)
theorem sstr_no {l : List UInt8} (h : l.head? ≠ some 45) (h0 : l ≠ []) : sstr l = (dval 0 l).map fun u => (false, u) := by
  unfold sstr
  rw [if_neg h, if_neg h0]
theorem sstr_yes {l r : List UInt8} (h : l = 45 :: r) (h0 : r ≠ []) : sstr l = (dval 0 r).map fun u => (true, u) := by
  subst h
  exact sstr_neg r h0
set_option maxRecDepth 100000 in
set_option maxHeartbeats 4000000 in
theorem setStr_any (p : Nat) (t : ByteArray) (w : World) (hp : w.heap[p]? = some (.cells #[.bool false, .slice none 0 0] 56)) (ht : t.size ≤ 60000) (hd : ∀ c ∈ t.data.toList, c.toNat = 45 ∨ (48 ≤ c.toNat ∧ c.toNat ≤ 57)) :
    Calls Tryz.prog 16 #[.pointer (some ⟨p, 0, none⟩), .string t, .int .i64 10] w fun e w' => SetP w p t.data.toList e w' := by
  have hpl : p < w.heap.size := lt_of_heap hp
  have HP : Hid (p < w.heap.size ∧ w.heap[p]? = some (.cells #[.bool false, .slice none 0 0] 56)) := ⟨hpl, hp⟩
  have W10 : ∀ W, Calls Tryz.prog 33 #[.int .u64 10] W fun e w' => ∃ v, e = .returned v ∧ IsBig w' v 10 ∧ Below W.heap.size W w' := fun W => nWords_any 10 W (by omega)
  obtain ⟨post, hpost⟩ : ∃ post, post = SetP w p t.data.toList := ⟨_, rfl⟩
  rw [← hpost]
  have HPO : Hid (post = SetP w p t.data.toList) := hpost
  clear hpost hp hpl
  by_cases h0 : 0 < t.size
  · have g0 : (0 : Int) < t.size := by omega
    have hdr := drop_at t 0 h0
    rw [List.drop_zero] at hdr
    have hin := hd t[0] (mem_at t 0 h0)
    by_cases h45 : t[0].toNat = 45
    · have e45 : t[0] = 45 := UInt8.toNat_inj.1 h45
      obtain ⟨q, hq⟩ : ∃ q, t.extract 1 t.size = q := ⟨_, rfl⟩
      have hql : q.data.toList = t.data.toList.drop 1 := by
        rw [← hq]
        exact lft_ex t 1
      have hqs : q.size = t.size - 1 := by rw [← hq, ByteArray.size_extract]; omega
      have HQS : Hid (q.size ≤ 60000) := by show _ ≤ _; omega
      have HQD : Hid (∀ c ∈ q.data.toList, c.toNat = 45 ∨ (48 ≤ c.toNat ∧ c.toNat ≤ 57)) := fun c hc => hd c (by rw [hql] at hc; exact List.mem_of_mem_drop hc)
      have htl : t.data.toList = 45 :: q.data.toList := by rw [hql, ← e45]; exact hdr
      have HTL : Hid (t.data.toList = 45 :: q.data.toList) := htl
      have HSL : Hid (t.extract 1 t.size = q) := hq
      have hne : q.size ≠ 0 → q.data.toList ≠ [] := fun h e => h (by have h5 := congrArg List.length e; rw [Array.length_toList] at h5; exact h5)
      by_cases hq0 : q.size = 0
      · have HEND : Hid (∀ W, Below p w W → post (.returned (.tuple #[.pointer none, .bool false])) W) := by
          intro W hW
          rw [HPO.out]
          unfold SetP
          have e : sstr t.data.toList = none := by
            rw [htl, List.length_eq_zero_iff.1 (show q.data.toList.length = 0 by rw [Array.length_toList]; exact hq0)]
            rfl
          rw [e]
          exact ⟨rfl, hW⟩
        have i0 : ((q.size : Int) == 0) = true := by simp [hq0]
        have j45 : ((t[0].toNat : Int) == 45) = true := by simp [h45]
        clear hin hd ht hqs hql htl hdr hne hq e45 h45 HTL HQD HQS hq0
        go_enter Tryz.func16, Tryz.ntmps16
        go_upto_region 5 with fail
        have e9 := HSL.out
        rw [e9]
        clear e9 HSL j45 g0
        go_wp2
        exact HEND.out _ (Below.refl _ _)
      · have hne := hne hq0
        have HNO : Hid (∀ W, dval 0 q.data.toList = none → Below w.heap.size w W → post (.returned (.tuple #[.pointer none, .bool false])) W) := by
          intro W h hW
          rw [HPO.out]
          unfold SetP
          rw [sstr_yes htl hne, h]
          exact ⟨rfl, hW.mono (Nat.le_of_lt HP.out.1)⟩
        have HYES : Hid (∀ W u, dval 0 q.data.toList = some u → NumAt W p (true && decide (0 < u)) u → Below p w W → post (.returned (.tuple #[.pointer (some ⟨p, 0, none⟩), .bool true])) W) := by
          intro W u h hn hW
          rw [HPO.out]
          unfold SetP
          rw [sstr_yes htl hne, h]
          exact ⟨⟨rfl, hn⟩, hW⟩
        have i0 : ((q.size : Int) == 0) = false := by rw [beq_eq_false_iff_ne]; omega
        have j45 : ((t[0].toNat : Int) == 45) = true := by simp [h45]
        clear hin hd ht hqs hql htl hdr hne hq hq0 e45 h45 HTL
        go_enter Tryz.func16, Tryz.ntmps16
        go_upto_region 5 with fail
        have e9 := HSL.out
        rw [e9]
        clear e9 HSL j45 g0
        go_wp2_with fail
        go_loopw [9, 10, 11, 12] (fun r i _ _ wr => ∃ (k a : Nat) (sa : Option Addr) (sn sc : Nat), r = .slice sa sn sc ∧ i = .int .i64 k ∧ k ≤ q.size ∧ IsBig wr (.slice sa sn sc) a ∧ Hid (dval 0 q.data.toList = dval a (q.data.toList.drop k) ∧ a < 10 ^ k) ∧ Below w.heap.size w wr) (fun _ i _ _ _ => q.size - (RowKit.intOf i).toNat)
        case atStart => exact ⟨0, 0, none, 0, 0, rfl, rfl, Nat.zero_le _, isBig_nil _, ⟨rfl, by simp⟩, Below.refl _ _⟩
        case round =>
          obtain ⟨k, a, sa, sn, sc, rfl, rfl, hk, hr, HD, hbel⟩ := hrel
          by_cases hlt : k < q.size
          · have g1 : (k : Int) < q.size := by omega
            have hdr := drop_at q k hlt
            have hin := HQD.out q[k] (mem_at q k hlt)
            have HD2 : Hid (dval 0 q.data.toList = dval a (q[k] :: q.data.toList.drop (k + 1)) ∧ a < 10 ^ k) := by
              have h := HD.out
              rw [hdr] at h
              exact h
            clear HD hdr
            rcases hin with h45 | ⟨h48, h57⟩
            · have HN : Hid (dval 0 q.data.toList = none) := by
                show _ = _
                rw [HD2.out.1, dval, if_neg (by omega)]
              clear HD2
              have j45 : (q[k].toNat : Int) = 45 := by omega
              clear h45
              go_wp2
              exact HNO.out _ HN.out hbel
            · have HS : Hid (dval 0 q.data.toList = dval (a * 10 + (q[k].toNat - 48)) (q.data.toList.drop (k + 1)) ∧ a * 10 + (q[k].toNat - 48) < 10 ^ (k + 1)) := by
                refine ⟨?_, ?_⟩
                · rw [HD2.out.1, dval, if_pos ⟨h48, h57⟩]
                · exact pow_dg HD2.out.2 h57
              have HPL : Hid (a < 4294967296 ^ (k + 1) ∧ a * 10 < 4294967296 ^ (k + 1) ∧ 100 < 4294967296 ^ (k + 1)) := pow_L HD2.out.2
              clear HD2
              have WD := fun W => nWords_any (q[k].toNat - 48) W (by omega)
              rw [show ((q[k].toNat - 48 : Nat) : Int) = (q[k].toNat : Int) - 48 from by omega] at WD
              have HLT : Hid (k < q.size) := hlt
              have i48 : (48 : Int) ≤ ((q[k]'hlt).toNat : Int) := by omega
              have i57 : ((q[k]'hlt).toNat : Int) ≤ 57 := by omega
              have HL : Hid (a < 4294967296 ^ (k + 1) ∧ a * 10 < 4294967296 ^ (k + 1) ∧ 100 < 4294967296 ^ (k + 1) ∧ k + 1 ≤ 70000 ∧ (q[k]'hlt).toNat - 48 < 10) := ⟨HPL.out.1, HPL.out.2.1, HPL.out.2.2, by have := HQS.out; omega, by omega⟩
              clear HPL h48 h57
              go_wp2_with fail
              refine (W10 _).mono ?_
              rintro e w1 ⟨v1, rfl, hv1, b1⟩
              go_wp2_with fail
              refine (nMul_any _ v1 a 10 w1 (hr.below b1) hv1 (k + 1) HL.out.2.2.2.1 HL.out.1 (Nat.lt_trans (by decide) HL.out.2.2.1)).mono ?_
              rintro e w2 ⟨v2, rfl, hv2, b2⟩
              go_wp2_with fail
              refine (WD _).mono ?_
              rintro e w3 ⟨v3, rfl, hv3, b3⟩
              go_wp2_with fail
              refine (nAdd_any v2 v3 (a * 10) ((q[k]'HLT.out).toNat - 48) w3 (hv2.below b3) hv3 (k + 1) HL.out.2.2.2.1 HL.out.2.1 (Nat.lt_trans HL.out.2.2.2.2 (Nat.lt_trans (by decide) HL.out.2.2.1))).mono ?_
              rintro e w4 ⟨v4, rfl, hv4, b4⟩
              obtain ⟨a4, n4, c4, rfl⟩ := hv4.slice
              have HB : Hid (Below w.heap.size w w4) := by
                have c1 := hbel.trans (b1.mono hbel.size)
                have c2 := c1.trans (b2.mono c1.size)
                have c3 := c2.trans (b3.mono c2.size)
                exact c3.trans (b4.mono c3.size)
              clear b1 b2 b3 b4 hv1 hv2 hv3 WD hr hbel
              have gk : (k : Int) < 100000 := by have := HQS.out; have := HLT.out; omega
              clear i48 i57 i0
              go_wp2
              go_roundw
              case rel => exact ⟨k + 1, _, a4, n4, c4, rfl, by go_num, HLT.out, hv4, HS, HB.out⟩
              case measure => have := HLT.out; simp [RowKit.intOf]; omega
          · have g1 : ¬ (k : Int) < q.size := by omega
            obtain rfl : k = q.size := by omega
            have hz : q.data.toList.drop q.size = [] := List.drop_eq_nil_of_le (by rw [Array.length_toList]; exact Nat.le_refl _)
            have HY : Hid (dval 0 q.data.toList = some a) := by
              have h := HD.out.1
              rw [hz] at h
              exact h
            have hbx := (hbel.block p HP.out.1).trans HP.out.2
            have G := nGive_any p true false (.slice sa sn sc) (.slice none 0 0) a wr hbx hr
            clear HD hz hbx
            go_wp2_with fail
            refine G.mono ?_
            rintro e w5 ⟨rfl, hn5, b5⟩
            go_wp2
            exact HYES.out _ _ HY.out hn5 ((hbel.mono (Nat.le_of_lt HP.out.1)).trans b5)
    · have HQS : Hid (t.size ≤ 60000) := ht
      have HQD : Hid (∀ c ∈ t.data.toList, c.toNat = 45 ∨ (48 ≤ c.toNat ∧ c.toNat ≤ 57)) := hd
      have hne : t.data.toList ≠ [] := by rw [hdr]; simp
      have hhd : t.data.toList.head? ≠ some 45 := by
        rw [hdr, List.head?_cons]
        intro e
        exact h45 (by rw [Option.some.inj e]; rfl)
      have HNO : Hid (∀ W, dval 0 t.data.toList = none → Below w.heap.size w W → post (.returned (.tuple #[.pointer none, .bool false])) W) := by
        intro W h hW
        rw [HPO.out]
        unfold SetP
        rw [sstr_no hhd hne, h]
        exact ⟨rfl, hW.mono (Nat.le_of_lt HP.out.1)⟩
      have HYES : Hid (∀ W u, dval 0 t.data.toList = some u → NumAt W p (false && decide (0 < u)) u → Below p w W → post (.returned (.tuple #[.pointer (some ⟨p, 0, none⟩), .bool true])) W) := by
        intro W u h hn hW
        rw [HPO.out]
        unfold SetP
        rw [sstr_no hhd hne, h]
        exact ⟨⟨rfl, hn⟩, hW⟩
      have i0 : ((t.size : Int) == 0) = false := by rw [beq_eq_false_iff_ne]; omega
      have j45 : ((t[0].toNat : Int) == 45) = false := by rw [beq_eq_false_iff_ne]; omega
      have j43 : ((t[0].toNat : Int) == 43) = false := by rw [beq_eq_false_iff_ne]; omega
      clear hin hd ht hdr hne hhd h45
      go_enter Tryz.func16, Tryz.ntmps16
      go_upto_region 5 with fail
      clear j45 j43 g0
      go_wp2_with fail
      go_loopw [9, 10, 11, 12] (fun r i _ _ wr => ∃ (k a : Nat) (sa : Option Addr) (sn sc : Nat), r = .slice sa sn sc ∧ i = .int .i64 k ∧ k ≤ t.size ∧ IsBig wr (.slice sa sn sc) a ∧ Hid (dval 0 t.data.toList = dval a (t.data.toList.drop k) ∧ a < 10 ^ k) ∧ Below w.heap.size w wr) (fun _ i _ _ _ => t.size - (RowKit.intOf i).toNat)
      case atStart => exact ⟨0, 0, none, 0, 0, rfl, rfl, Nat.zero_le _, isBig_nil _, ⟨rfl, by simp⟩, Below.refl _ _⟩
      case round =>
        obtain ⟨k, a, sa, sn, sc, rfl, rfl, hk, hr, HD, hbel⟩ := hrel
        by_cases hlt : k < t.size
        · have g1 : (k : Int) < t.size := by omega
          have hdr := drop_at t k hlt
          have hin := HQD.out t[k] (mem_at t k hlt)
          have HD2 : Hid (dval 0 t.data.toList = dval a (t[k] :: t.data.toList.drop (k + 1)) ∧ a < 10 ^ k) := by
            have h := HD.out
            rw [hdr] at h
            exact h
          clear HD hdr
          rcases hin with h45 | ⟨h48, h57⟩
          · have HN : Hid (dval 0 t.data.toList = none) := by
              show _ = _
              rw [HD2.out.1, dval, if_neg (by omega)]
            clear HD2
            have j45 : (t[k].toNat : Int) = 45 := by omega
            clear h45
            go_wp2
            exact HNO.out _ HN.out hbel
          · have HS : Hid (dval 0 t.data.toList = dval (a * 10 + (t[k].toNat - 48)) (t.data.toList.drop (k + 1)) ∧ a * 10 + (t[k].toNat - 48) < 10 ^ (k + 1)) := by
              refine ⟨?_, ?_⟩
              · rw [HD2.out.1, dval, if_pos ⟨h48, h57⟩]
              · exact pow_dg HD2.out.2 h57
            have HPL : Hid (a < 4294967296 ^ (k + 1) ∧ a * 10 < 4294967296 ^ (k + 1) ∧ 100 < 4294967296 ^ (k + 1)) := pow_L HD2.out.2
            clear HD2
            have WD := fun W => nWords_any (t[k].toNat - 48) W (by omega)
            rw [show ((t[k].toNat - 48 : Nat) : Int) = (t[k].toNat : Int) - 48 from by omega] at WD
            have HLT : Hid (k < t.size) := hlt
            have i48 : (48 : Int) ≤ ((t[k]'hlt).toNat : Int) := by omega
            have i57 : ((t[k]'hlt).toNat : Int) ≤ 57 := by omega
            have HL : Hid (a < 4294967296 ^ (k + 1) ∧ a * 10 < 4294967296 ^ (k + 1) ∧ 100 < 4294967296 ^ (k + 1) ∧ k + 1 ≤ 70000 ∧ (t[k]'hlt).toNat - 48 < 10) := ⟨HPL.out.1, HPL.out.2.1, HPL.out.2.2, by have := HQS.out; omega, by omega⟩
            clear HPL h48 h57
            go_wp2_with fail
            refine (W10 _).mono ?_
            rintro e w1 ⟨v1, rfl, hv1, b1⟩
            go_wp2_with fail
            refine (nMul_any _ v1 a 10 w1 (hr.below b1) hv1 (k + 1) HL.out.2.2.2.1 HL.out.1 (Nat.lt_trans (by decide) HL.out.2.2.1)).mono ?_
            rintro e w2 ⟨v2, rfl, hv2, b2⟩
            go_wp2_with fail
            refine (WD _).mono ?_
            rintro e w3 ⟨v3, rfl, hv3, b3⟩
            go_wp2_with fail
            refine (nAdd_any v2 v3 (a * 10) ((t[k]'HLT.out).toNat - 48) w3 (hv2.below b3) hv3 (k + 1) HL.out.2.2.2.1 HL.out.2.1 (Nat.lt_trans HL.out.2.2.2.2 (Nat.lt_trans (by decide) HL.out.2.2.1))).mono ?_
            rintro e w4 ⟨v4, rfl, hv4, b4⟩
            obtain ⟨a4, n4, c4, rfl⟩ := hv4.slice
            have HB : Hid (Below w.heap.size w w4) := by
              have c1 := hbel.trans (b1.mono hbel.size)
              have c2 := c1.trans (b2.mono c1.size)
              have c3 := c2.trans (b3.mono c2.size)
              exact c3.trans (b4.mono c3.size)
            clear b1 b2 b3 b4 hv1 hv2 hv3 WD hr hbel
            have gk : (k : Int) < 100000 := by have := HQS.out; have := HLT.out; omega
            clear i48 i57 i0
            go_wp2
            go_roundw
            case rel => exact ⟨k + 1, _, a4, n4, c4, rfl, by go_num, HLT.out, hv4, HS, HB.out⟩
            case measure => have := HLT.out; simp [RowKit.intOf]; omega
        · have g1 : ¬ (k : Int) < t.size := by omega
          obtain rfl : k = t.size := by omega
          have hz : t.data.toList.drop t.size = [] := List.drop_eq_nil_of_le (by rw [Array.length_toList]; exact Nat.le_refl _)
          have HY : Hid (dval 0 t.data.toList = some a) := by
            have h := HD.out.1
            rw [hz] at h
            exact h
          have hbx := (hbel.block p HP.out.1).trans HP.out.2
          have G := nGive_any p false false (.slice sa sn sc) (.slice none 0 0) a wr hbx hr
          clear HD hz hbx
          go_wp2_with fail
          refine G.mono ?_
          rintro e w5 ⟨rfl, hn5, b5⟩
          go_wp2
          exact HYES.out _ _ HY.out hn5 ((hbel.mono (Nat.le_of_lt HP.out.1)).trans b5)
  · have ht0 : t.size = 0 := by omega
    have HEND : Hid (∀ W, Below p w W → post (.returned (.tuple #[.pointer none, .bool false])) W) := by
      intro W hW
      rw [HPO.out]
      unfold SetP
      rw [List.length_eq_zero_iff.1 (show t.data.toList.length = 0 by rw [Array.length_toList]; exact ht0)]
      exact ⟨rfl, hW⟩
    have i0 : ((t.size : Int) == 0) = true := by simp [ht0]
    have g0 : ¬ (0 : Int) < t.size := by omega
    clear hd ht h0 ht0
    go_enter Tryz.func16, Tryz.ntmps16
    go_wp2
    exact HEND.out _ (Below.refl _ _)
end Go.Proofs.YtnmdhbejjjmdeaaGreatDoor

namespace Go.Proofs.YtnmdhbejjjmdeaaGreatDoor
open Go.RowKit Go.Sort

theorem dgs_in {s : ByteArray} {k q : Nat} (h1 : k ≤ q) (h2 : q < k + (dgs (lft s k)).length) : ∃ h : q < s.size, (s[q].toNat = 45 ∨ (48 ≤ s[q].toNat ∧ s[q].toNat ≤ 57)) := by
  obtain ⟨j, rfl⟩ : ∃ j, q = k + j := ⟨q - k, by omega⟩
  exact dgs_at (by omega)
theorem dgs_out {s : ByteArray} {k q : Nat} (h1 : q = k + (dgs (lft s k)).length) (h2 : q < s.size) : ¬ (s[q].toNat = 45 ∨ (48 ≤ s[q].toNat ∧ s[q].toNat ≤ 57)) := by
  subst h1
  exact dgs_stop h2
theorem pre34_yes {s : ByteArray} {k : Nat} (h : k < s.size) (hc : s[k].toNat = 34) : preB s k ⟨#[34]⟩ = true := by
  have h1 : lft s k = s[k] :: lft s (k + 1) := drop_at s k h
  rw [show s[k] = 34 from UInt8.toNat_inj.1 hc] at h1
  exact pre_of h1
theorem pre34_no {s : ByteArray} {k : Nat} (h : k < s.size) (hc : ¬ s[k].toNat = 34) : preB s k ⟨#[34]⟩ = false := by
  have h1 : lft s k = s[k] :: lft s (k + 1) := drop_at s k h
  exact pre_other h1 (fun e => hc (by rw [← e]; rfl))
theorem pre34_end {s : ByteArray} {k : Nat} (h : ¬ k < s.size) : preB s k ⟨#[34]⟩ = false := by
  cases hp : preB s k ⟨#[34]⟩ with
  | false => rfl
  | true => exact absurd (pre_room hp rfl) (by omega)
theorem sstr_lt {l : List UInt8} {ng : Bool} {u : Nat} (h : sstr l = some (ng, u)) : u < 4294967296 ^ l.length := by
  have h9 : ∀ n, (10 : Nat) ^ n ≤ 4294967296 ^ n := fun n => Nat.pow_le_pow_left (by omega) n
  unfold sstr at h
  by_cases h1 : l.head? = some 45
  · rw [if_pos h1] at h
    by_cases h2 : l.tail = []
    · rw [if_pos h2] at h; cases h
    · rw [if_neg h2] at h
      obtain ⟨v, hv, e⟩ := Option.map_eq_some_iff.1 h
      obtain rfl : v = u := (Prod.mk.inj e).2
      have h3 := dval_lt l.tail 0 v 0 hv (by simp)
      have h4 : (4294967296 : Nat) ^ l.tail.length ≤ 4294967296 ^ l.length := Nat.pow_le_pow_right (by omega) (by simp)
      rw [Nat.zero_add] at h3
      exact Nat.lt_of_lt_of_le h3 (Nat.le_trans (h9 _) h4)
  · rw [if_neg h1] at h
    by_cases h2 : l = []
    · rw [if_pos h2] at h; cases h
    · rw [if_neg h2] at h
      obtain ⟨v, hv, e⟩ := Option.map_eq_some_iff.1 h
      obtain rfl : v = u := (Prod.mk.inj e).2
      have h3 := dval_lt l 0 v 0 hv (by simp)
      rw [Nat.zero_add] at h3
      exact Nat.lt_of_lt_of_le h3 (h9 _)
theorem NumAt.below {w w' : World} {q : Nat} {ng : Bool} {u : Nat} (h : NumAt w q ng u) (hb : Below w.heap.size w w') : NumAt w' q ng u := by
  obtain ⟨v, h1, h2⟩ := h
  exact ⟨v, (hb.block q (lt_of_heap h1)).trans h1, h2.below hb⟩
theorem NumAt.drew {w : World} {q : Nat} {ng : Bool} {u : Nat} (h : NumAt w q ng u) : NumAt w.drew q ng u := h
theorem NumAt.setP {w : World} {q p j : Nat} {ng : Bool} {u : Nat} {s : ByteArray} {v : Value} (h : NumAt w q ng u) (hp : w.cell? ⟨p, 0, none⟩ = some (.string s)) (hq : q ≠ p) : NumAt (w.setCell ⟨p, j, none⟩ v) q ng u := by
  obtain ⟨x, h1, a, cap, ws, rfl, g1, g2, g3, g4⟩ := h
  refine ⟨_, (Below.heap_setCell _ _ _ _ (by simpa using hq)).trans h1, a, cap, ws, rfl, g1, g2, g3, fun hne => ?_⟩
  obtain ⟨g, rfl, h5, h6⟩ := g4 hne
  have hgp : g ≠ p := by
    intro e
    subst e
    have := h6 0 (List.length_pos_iff.2 hne)
    rw [hp] at this
    cases this
  refine ⟨g, rfl, by simpa using h5, fun t ht => ?_⟩
  rw [World.cell?_setCell_other _ _ _ _ (fun e => hgp (by injection e with e _; exact e.symm))]
  exact h6 t ht
end Go.Proofs.YtnmdhbejjjmdeaaGreatDoor
