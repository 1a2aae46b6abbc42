/-
  What is proved: the function Text of the statements' own package of great numbers prints a number of 64 bits, and its sign, as its decimal digits; and the function Digits of package bookref1 does so.
  Conditions: as each theorem says.
-/
import Derived.Test.YtnmdhbejjjmdeaaGreatDoorP06
namespace Go.Proofs.YtnmdhbejjjmdeaaGreatDoor
open Go.RowKit

/-- The digits of a number, the least first. -/
def rd : Nat → Nat → List UInt8
  | 0, _ => []
  | f + 1, m => if m = 0 then [] else UInt8.ofNat (48 + m % 10) :: rd f (m / 10)

theorem rd_zero (f : Nat) : rd f 0 = [] := by cases f <;> simp [rd]

theorem rd_rev : ∀ (f u : Nat), u < 10 ^ f → 0 < u → (rd f u).reverse = Lib.decDigits u
  | 0, u, h, h0 => by simp at h; omega
  | f + 1, u, h, h0 => by
    rw [rd, if_neg (by omega)]
    by_cases h10 : u < 10
    · rw [show u / 10 = 0 from by omega, rd_zero, Lib.decDigits_one h10, show u % 10 = u from by omega]
      rfl
    · rw [Lib.decDigits, dif_neg h10, List.reverse_cons, rd_rev f (u / 10) (by rw [Nat.pow_succ] at h; omega) (by omega)]

/-- A byte as a value. -/
def bv (b : UInt8) : Value := .int .u8 (b.toNat : Int)

/-- How far the digits have been taken off. -/
structure Off (x : Nat) (f m : Nat) (ds : List UInt8) : Prop where
  lt : m < 10 ^ f
  all : rd 20 x = ds ++ rd f m
  len : ds.length + f = 20

theorem Off.start (x : Nat) (h : x < 18446744073709551616) : Off x 20 x [] := ⟨by omega, rfl, rfl⟩

theorem Off.step {x f m : Nat} {ds : List UInt8} (h : Off x f m ds) (hm : 0 < m) : ∃ f', f = f' + 1 ∧ Off x f' (m / 10) (ds ++ [UInt8.ofNat (48 + m % 10)]) := by
  cases f with
  | zero => have := h.lt; simp at this; omega
  | succ f =>
    refine ⟨f, rfl, ⟨?_, ?_, ?_⟩⟩
    · have := h.lt
      rw [Nat.pow_succ] at this
      omega
    · rw [h.all, rd, if_neg (by omega)]
      simp
    · have := h.len
      simp
      omega

theorem Off.stop {x f : Nat} {ds : List UInt8} (h : Off x f 0 ds) (hx : 0 < x) (hx' : x < 18446744073709551616) : ds.reverse = Lib.decDigits x ∧ ds.length ≤ 20 ∧ ds ≠ [] := by
  have e : rd 20 x = ds := by rw [h.all, rd_zero]; simp
  have e2 : ds.reverse = Lib.decDigits x := by rw [← e]; exact rd_rev 20 x (by omega) hx
  refine ⟨e2, by have := h.len; omega, fun e3 => ?_⟩
  obtain ⟨b, r, hd⟩ := dec_ne x
  rw [e3, hd] at e2
  cases e2

theorem digit_bv (m : Nat) : bv (UInt8.ofNat (48 + m % 10)) = .int .u8 (48 + (m : Int) % 10) := by
  unfold bv
  rw [digit_nat (m % 10) (by omega)]
  simp

/-- How long a slice is. -/
def lenOf : Value → Nat | .slice _ n _ => n | _ => 0

theorem own_len {w : World} {B : Nat} {e : TypeId} {v : Value} {n : Nat} {xs : List Value} (h : w.ownsRow B e 1 v n xs) : lenOf v = n := by
  rcases h.2 with ⟨rfl, rfl⟩ | ⟨g, cap, cur, rfl, _⟩ <;> rfl

/-- A slice that is not empty, and owned, lies somewhere. -/
theorem own_at {w : World} {B : Nat} {e : TypeId} {v : Value} {n : Nat} {xs : List Value} (h : w.ownsRow B e 1 v n xs) (hn : 0 < n) : ∃ g cap, v = .slice (some ⟨g, 0, none⟩) n cap ∧ B ≤ g ∧ g < w.heap.size ∧ n ≤ cap ∧
    (∀ j, j < n → w.cell? ⟨g, j, none⟩ = xs[j]?) ∧ ∀ j, w.frozen? ⟨g, j, none⟩ = false := by
  rcases h.2 with ⟨rfl, rfl⟩ | ⟨g, cap, cur, rfl, hg, hh, hc, hm, hz, ht⟩
  · omega
  · refine ⟨g, cap, rfl, hg, ?_, hc, fun j hj => h.cellAt j (by omega), fun j => ?_⟩
    · rcases Nat.lt_or_ge g w.heap.size with h1 | h1
      · exact h1
      · rw [Array.getElem?_eq_none h1] at hh; cases hh
    · simp [World.frozen?, hh]

theorem own_digit {w : World} {B m : Nat} {v : Value} {ds : List UInt8} {d : Int} (hd : d = 48 + (m : Int) % 10) (h : w.ownsRow B 5 1 v (ds.length + 1) (ds.map bv ++ [.int .u8 d])) :
    w.ownsRow B 5 1 v (ds ++ [UInt8.ofNat (48 + m % 10)]).length ((ds ++ [UInt8.ofNat (48 + m % 10)]).map bv) := by
  rw [List.length_append, List.map_append, List.map_cons, digit_bv, ← hd]
  exact h

/-- What stands at a place when so many have changed places. -/
def rv (ds : List UInt8) (k t : Nat) : UInt8 := if t < k ∨ ds.length ≤ t + k then ds.getD (ds.length - 1 - t) 0 else ds.getD t 0

theorem rv_zero (ds : List UInt8) (t : Nat) (h : t < ds.length) : rv ds 0 t = ds[t] := by
  unfold rv
  rw [if_neg (by omega)]
  simp [h]

theorem rv_end (ds : List UInt8) (k t : Nat) (h : t < ds.length) (hk : ds.length ≤ k + k + 1) : rv ds k t = ds.reverse[t]'(by simpa using h) := by
  rw [List.getElem_reverse]
  unfold rv
  split
  · rw [List.getD_eq_getElem?_getD, List.getElem?_eq_getElem (by omega)]; rfl
  · rw [List.getD_eq_getElem?_getD, List.getElem?_eq_getElem h]
    have : ds.length - 1 - t = t := by omega
    simp only [this]
    rfl

theorem rv_step (ds : List UInt8) (k t : Nat) (h : k + k + 1 < ds.length) (ht : t < ds.length) : rv ds (k + 1) t = if t = k then rv ds k (ds.length - 1 - k) else if t = ds.length - 1 - k then rv ds k k else rv ds k t := by
  unfold rv
  by_cases h1 : t = k
  · subst h1
    rw [if_pos (by omega), if_pos rfl, if_neg (by omega)]
  · rw [if_neg h1]
    by_cases h2 : t = ds.length - 1 - k
    · rw [if_pos (by omega), if_pos h2, if_neg (by omega), h2]
      congr 1
      omega
    · rw [if_neg h2]
      by_cases h3 : t < k ∨ ds.length ≤ t + k
      · rw [if_pos (by omega), if_pos h3]
      · rw [if_neg (by omega), if_neg h3]

theorem addr_add (g t : Nat) : (⟨g, 0, none⟩ : Addr).add t = ⟨g, t, none⟩ := by cases t <;> simp [Addr.add]
theorem str_eq {a b : List UInt8} (h : a = b) : Ending.returned (.string ⟨a.toArray⟩) = .returned (.string ⟨b.toArray⟩) := by rw [h]
theorem addr_ne {g a b : Nat} (h : a ≠ b) : (⟨g, a, none⟩ : Addr) ≠ ⟨g, b, none⟩ := fun e => h (by injection e)

/-- Two cells that change places. -/
theorem swap_cells {w : World} {g k q : Nat} {ds : List UInt8} (hq : q + k + 1 = ds.length) (hlt : k < q) (hc : ∀ t, t < ds.length → w.cell? ⟨g, t, none⟩ = some (bv (rv ds k t))) :
    ∀ t, t < ds.length → ((w.setCell ⟨g, k, none⟩ (bv (rv ds k q))).setCell ⟨g, q, none⟩ (bv (rv ds k k))).cell? ⟨g, t, none⟩ = some (bv (rv ds (k + 1) t)) := by
  intro t ht
  rw [rv_step ds k t (by omega) ht, show ds.length - 1 - k = q from by omega]
  by_cases h1 : t = q
  · subst h1
    rw [if_neg (by omega), if_pos rfl]
    exact World.cell?_setCell_same _ _ _ ((World.cell?_setCell_other _ _ _ _ (addr_ne (by omega))).trans (hc t ht))
  · rw [World.cell?_setCell_other _ _ _ _ (addr_ne (fun e => h1 e.symm))]
    by_cases h2 : t = k
    · subst h2
      rw [if_pos rfl]
      exact World.cell?_setCell_same _ _ _ (hc t ht)
    · rw [World.cell?_setCell_other _ _ _ _ (addr_ne (fun e => h2 e.symm)), if_neg h2, if_neg h1]
      exact hc t ht

theorem infoB5 : (Tryz.prog.info? 5).map (fun i => (i.zero, i.size, i.bytes)) = some (some (.int .u8 0), 1, 1) := by kernel_rfl

theorem own_block {B : Nat} {wr : World} {v5 : Value} {ds : List UInt8} (own : wr.ownsRow B 5 1 v5 ds.length (ds.map bv)) : ∀ k, v5.ownBlock = some k → B ≤ k ∧ k < wr.heap.size := by
  intro k hk
  obtain ⟨_, h2⟩ := own
  rcases h2 with ⟨rfl, _⟩ | ⟨g, cap, cur, rfl, hg1, hh, _⟩
  · cases hk
  · have hk' : some g = some k := hk
    have := Option.some.inj hk'
    subst this
    refine ⟨hg1, ?_⟩
    rcases Nat.lt_or_ge g wr.heap.size with h | h
    · exact h
    · rw [Array.getElem?_eq_none h] at hh; cases hh

/-- What an append of one digit leaves of the rest. -/
theorem off_world {B q : Nat} {w wr w' : World} {v5 : Value} {ds : List UInt8} {o o2 : Obj} (own : wr.ownsRow B 5 1 v5 ds.length (ds.map bv)) (bel : Below B w wr) (hB : B ≤ wr.heap.size)
    (hW : Words (wr.alloc o) wr.heap.size q) (hg : ((wr.alloc o).alloc o2).grownBy w' v5.ownBlock) :
    Words w' wr.heap.size q ∧ wr.heap.size < w'.heap.size ∧ Below B w w' := by
  have hk := own_block own
  have z : ((wr.alloc o).alloc o2).heap.size = wr.heap.size + 2 := by simp
  have hb : ∀ j, w'.cell? ⟨wr.heap.size, j, none⟩ = (wr.alloc o).cell? ⟨wr.heap.size, j, none⟩ := by
    intro j
    rw [World.cell?_of_block (a := ⟨wr.heap.size, j, none⟩) (hg.block wr.heap.size (by omega) (fun e => by have := (hk _ e.symm).2; omega))]
    exact World.cell?_alloc_past _ _ _ (by simp)
  refine ⟨⟨fun h => (hb 0).trans (hW.1 h), fun h => (hb 1).trans (hW.2 h)⟩, ?_, ?_⟩
  · have := hg.size; omega
  · exact (((bel.alloc hB _).alloc (by simp; omega) _).grown hg (by simp; omega) (fun k e => (hk k e).1))

theorem len32_pos {u : Nat} (h : 1 ≤ u) : 1 ≤ len32 u := by unfold len32; split <;> (try split) <;> omega

/-- small, at any number of 64 bits that is not 0. -/
theorem small_any (g c m : Nat) (w : World) (h1 : 1 ≤ m) (hm : m < 18446744073709551616) (hW : Words w g m) (hg : g < w.heap.size) :
    Calls Tryz.prog 55 #[.slice (some ⟨g, 0, none⟩) (len32 m) c, .int .u32 10] w fun e w' => ∃ o c', e = .returned (.tuple #[.slice (some ⟨w.heap.size, 0, none⟩) (len32 (m / 10)) c', .int .u32 ((m : Int) % 10)]) ∧ w' = w.alloc o ∧ Words (w.alloc o) w.heap.size (m / 10) := by
  by_cases h : m < 4294967296
  · have e : len32 m = 1 := by unfold len32; rw [if_neg (by omega), if_pos h]
    have c0 := hW.1 (by omega)
    rw [show (m : Int) % 4294967296 = m from by omega] at c0
    rw [e]
    refine (small_1 g c m w h c0 hg).mono ?_
    rintro ev w' ⟨rfl, rfl⟩
    refine ⟨_, _, rfl, rfl, fun _ => ?_, fun h2 => ?_⟩
    · rw [World.cell?_alloc_new]
      have : ((m / 10 : Nat) : Int) % 4294967296 = ((m / 10 : Nat) : Int) := by omega
      rw [this]
      rfl
    · exfalso
      unfold len32 at h2
      split at h2
      · omega
      · rw [if_pos (by omega)] at h2
        omega
  · have e : len32 m = 2 := by unfold len32; rw [if_neg (by omega), if_neg h]
    have c0 := hW.1 (by omega)
    have c1 := hW.2 (by omega)
    rw [e]
    refine (small_2 g c m w hm (by omega) c0 c1 hg).mono ?_
    rintro ev w' ⟨rfl, rfl⟩
    refine ⟨_, _, rfl, rfl, fun _ => ?_, fun _ => ?_⟩
    · rw [World.cell?_alloc_new]; rfl
    · rw [World.cell?_alloc_new]; rfl

/-- twin, at any number of 64 bits that is not 0. -/
theorem twin_any (g c m : Nat) (w : World) (h1 : 1 ≤ m) (hW : Words w g m) :
    Calls Tryz.prog 54 #[.slice (some ⟨g, 0, none⟩) (len32 m) c] w fun e w' => ∃ g' c', e = .returned (.slice (some ⟨g', 0, none⟩) (len32 m) c') ∧ g' < w'.heap.size ∧ Words w' g' m ∧ Below w.heap.size w w' := by
  by_cases h : m < 4294967296
  · have e : len32 m = 1 := by unfold len32; rw [if_neg (by omega), if_pos h]
    have c0 := hW.1 (by omega)
    rw [e]
    refine (twin_1 g c _ w c0).mono ?_
    rintro ev w' ⟨v, rfl, hown, bel⟩
    obtain ⟨a1, cc, rfl, _, ha1, _, hc1, _⟩ := own_at hown (by omega)
    exact ⟨a1, cc, rfl, ha1, ⟨fun _ => by rw [hc1 0 (by omega)]; rfl, fun h2 => by omega⟩, bel⟩
  · have e : len32 m = 2 := by unfold len32; rw [if_neg (by omega), if_neg h]
    have c0 := hW.1 (by omega)
    have c1 := hW.2 (by omega)
    rw [e]
    refine (twin_2 g c _ _ w c0 c1).mono ?_
    rintro ev w' ⟨v, rfl, hown, bel⟩
    obtain ⟨a1, cc, rfl, _, ha1, _, hc1, _⟩ := own_at hown (by omega)
    exact ⟨a1, cc, rfl, ha1, ⟨fun _ => by rw [hc1 0 (by omega)]; rfl, fun _ => by rw [hc1 1 (by omega)]; rfl⟩, bel⟩

set_option maxHeartbeats 2000000 in
set_option maxRecDepth 100000 in
theorem text_pos (x p g c : Nat) (w : World) (hx : 1 ≤ x) (hm : x < 18446744073709551616) (p0 : w.cell? ⟨p, 0, none⟩ = some (.bool false)) (p1 : w.cell? ⟨p, 1, none⟩ = some (.slice (some ⟨g, 0, none⟩) (len32 x) c)) (hg0 : Words w g x) (hp : p < w.heap.size) :
    Calls Tryz.prog 37 #[.pointer (some ⟨p, 0, none⟩), .int .i64 10] w fun e w' => e = .returned (.string ⟨(Lib.decDigits x).toArray⟩) ∧ Below w.heap.size w w' := by
  obtain ⟨i0, hi, hz0, hz1, hz2⟩ := info_parts infoB5
  have hL := len32_pos hx
  have hL0 : ¬ len32 x = 0 := by omega
  have T := twin_any g c x w hx hg0
  generalize hLx : len32 x = Lx at *
  have hL1 : ¬ (Lx : Int) = 0 := by omega
  go_enter Tryz.func37, Tryz.ntmps37
  go_wp2_with fail
  refine T.mono ?_
  rintro e w1 ⟨a1, c1, rfl, ha1, hW1, bel⟩
  clear T
  go_wp2_with fail
  go_loopw [5, 6] (fun b a wr => ∃ (f m : Nat) (ds : List UInt8) (gg c : Nat), Off x f m ds ∧ m < 18446744073709551616 ∧ a = .slice (some ⟨gg, 0, none⟩) (len32 m) c ∧ Words wr gg m ∧ gg < wr.heap.size ∧
      wr.ownsRow w.heap.size 5 1 b ds.length (ds.map bv) ∧ Below w.heap.size w wr) (fun b _ _ => 20 - lenOf b)
  case atStart => exact ⟨20, x, [], a1, c1, Off.start x hm, hm, by rw [hLx], hW1, ha1, World.ownsRow_nil _ _ _ _, bel⟩
  case round =>
    clear hW1 ha1
    obtain ⟨f, m, ds, gg, c2, hO, hm1, rfl, hcell, hgg, hown, hbel⟩ := hrel
    have hBr : w.heap.size ≤ wr.heap.size := hbel.size
    by_cases h0 : m = 0
    · subst h0
      have hl0 : len32 0 = 0 := rfl
      rw [hl0]
      obtain ⟨hdec, hl7, hne⟩ := hO.stop (by omega) hm
      have p0' : wr.cell? ⟨p, 0, none⟩ = some (.bool false) := (hbel.cell (p := ⟨p, 0, none⟩) hp).trans p0
      clear hcell hO hgg hm1
      have HD : Hid (ds.reverse = Lib.decDigits x) := hdec
      have hpos : 0 < ds.length := List.length_pos_iff.2 hne
      clear hdec
      obtain ⟨gb, cap, rfl, hgB, hgb, _, hcs, hfs⟩ := own_at hown hpos
      have hcz : ∀ t, t < ds.length → wr.cell? ⟨gb, t, none⟩ = some (bv (rv ds 0 t)) := fun t ht => by
        rw [hcs t ht, rv_zero ds t ht]
        simp [ht]
      clear hown hcs
      go_wp2_with fail
      go_loopw [8, 9] (fun i j w2 => ∃ k q : Nat, q + k + 1 = ds.length ∧ i = .int .i64 k ∧ j = .int .i64 q ∧ (∀ t, t < ds.length → w2.cell? ⟨gb, t, none⟩ = some (bv (rv ds k t))) ∧ (∀ t, w2.frozen? ⟨gb, t, none⟩ = false) ∧ Below w.heap.size w w2) (fun i j _ => (RowKit.intOf j - RowKit.intOf i).toNat)
      case atStart =>
        have e9 : Value.int .i64 ((ds.length : Int) - 1) = .int .i64 ((ds.length - 1 : Nat) : Int) := by go_num
        exact ⟨0, ds.length - 1, by omega, rfl, e9, hcz, hfs, hbel⟩
      case round =>
        obtain ⟨k, q, hq, rfl, rfl, hc2, hf2, hb2⟩ := hrel
        by_cases hlt : k < q
        · have S := swap_cells hq hlt hc2
          have ck : wr.cell? ⟨gb, k, none⟩ = some (.int .u8 ((rv ds k k).toNat : Int)) := hc2 k (by omega)
          have cq : wr.cell? ⟨gb, q, none⟩ = some (.int .u8 ((rv ds k q).toNat : Int)) := hc2 q (by omega)
          have cq' : ∀ v, (wr.setCell ⟨gb, k, none⟩ v).cell? ⟨gb, q, none⟩ = some (.int .u8 ((rv ds k q).toNat : Int)) := fun v => (World.cell?_setCell_other _ _ _ _ (addr_ne (by omega))).trans cq
          have HQ : Hid (q + k + 1 = ds.length) := hq
          have kl : k < ds.length := by omega
          have ql : q < ds.length := by omega
          have HS : Hid (∀ t, t < ds.length → ((wr.setCell ⟨gb, k, none⟩ (.int .u8 ((rv ds k q).toNat : Int))).setCell ⟨gb, q, none⟩ (.int .u8 ((rv ds k k).toNat : Int))).cell? ⟨gb, t, none⟩ = some (bv (rv ds (k + 1) t))) := S
          clear S hc2 hq hcz hfs
          go_wp2
          go_roundw
          case rel =>
            have e8 : Value.int .i64 ((k : Int) + 1) = .int .i64 ((k + 1 : Nat) : Int) := by go_num
            have e9 : Value.int .i64 ((q : Int) - 1) = .int .i64 ((q - 1 : Nat) : Int) := by go_num
            exact ⟨k + 1, q - 1, by have := HQ.out; omega, e8, e9, HS.out, fun t => by simpa using hf2 t, (hb2.setCell hgB _).setCell hgB _⟩
          case measure => simp [RowKit.intOf]; omega
        · have hcv := run_convert_bytes_back (P := Tryz.prog) wr 87 9 5 ⟨gb, 0, none⟩ cap ds.reverse Tryz.underlying87 Tryz.underlying5 Tryz.underlying9 (fun t ht => by
            rw [List.length_reverse] at ht
            have h1 := hc2 t ht
            rw [rv_end ds k t ht (by omega)] at h1
            rw [addr_add]
            exact h1)
          rw [List.length_reverse] at hcv
          clear hc2 hq hcz hfs hf2
          go_wp2
          go_ret
          exact ⟨str_eq HD.out, hb2⟩
    · have hln : ds.length ≤ 20 := by have := hO.len; omega
      obtain ⟨f', rfl, hO'⟩ := hO.step (by omega)
      have S := small_any gg c2 m wr (by omega) hm1 hcell hgg
      have hLm := len32_pos (u := m) (by omega)
      have hLm' : (0 : Int) < (len32 m : Int) := by omega
      clear hcell
      have d1 : (0 : Int) ≤ (m : Int) % 10 := by omega
      have d2 : (m : Int) % 10 < 10 := by omega
      have hdl := own_len hown
      have Hm1 : Hid (m < 18446744073709551616) := hm1
      have HX : Hid (x < 18446744073709551616) := hm
      clear hm1 hm
      go_wp2_with fail
      refine S.mono ?_
      rintro e w2 ⟨o, c3, rfl, rfl, hW2⟩
      clear S
      go_wp2_with (at_builtin; refine wpList_append_own _ rfl _ _ 87 rfl w.heap.size 5 i0 (.int .u8 0) 1 1 Tryz.underlying87 hi hz0 hz1 hz2 rfl (by decide) _ _ _ rfl ((hown.alloc _).alloc _) ⟨wr.heap.size + 1, 0, none⟩ 1 1 [.int .u8 (48 + (m : Int) % 10)] rfl rfl ?c1 ?c2 ?c3 ?c4 ?c5 ?_)
      case c1 =>
        intro j u hj
        match j, hj with
        | 0, hj => simp at hj; subst hj; simp [Addr.add]
      case c2 => intro u hu; simp at hu; subst hu; rfl
      case c3 => unfold maxLen; omega
      case c4 => omega
      case c5 => simp; omega
      intro v' w3 hown' hgrow _
      have R := off_world hown hbel hBr hW2 hgrow
      have hl' := own_len hown'
      have hs' := hO.len
      have ho' := own_digit (m := m) rfl hown'
      clear hown' hgrow hown hW2
      go_wp2
      go_roundw
      case rel => exact ⟨f', m / 10, _, wr.heap.size, c3, hO', by have := Hm1.out; omega, rfl, R.1, R.2.1, ho', R.2.2⟩
      case measure => rw [hl', hdl]; omega

set_option maxHeartbeats 2000000 in
set_option maxRecDepth 100000 in
theorem text_neg (x p g c : Nat) (w : World) (hx : 1 ≤ x) (hm : x < 18446744073709551616) (p0 : w.cell? ⟨p, 0, none⟩ = some (.bool true)) (p1 : w.cell? ⟨p, 1, none⟩ = some (.slice (some ⟨g, 0, none⟩) (len32 x) c)) (hg0 : Words w g x) (hp : p < w.heap.size) :
    Calls Tryz.prog 37 #[.pointer (some ⟨p, 0, none⟩), .int .i64 10] w fun e w' => e = .returned (.string ⟨(45 :: Lib.decDigits x).toArray⟩) ∧ Below w.heap.size w w' := by
  obtain ⟨i0, hi, hz0, hz1, hz2⟩ := info_parts infoB5
  have hL := len32_pos hx
  have hL0 : ¬ len32 x = 0 := by omega
  have T := twin_any g c x w hx hg0
  generalize hLx : len32 x = Lx at *
  have hL1 : ¬ (Lx : Int) = 0 := by omega
  go_enter Tryz.func37, Tryz.ntmps37
  go_wp2_with fail
  refine T.mono ?_
  rintro e w1 ⟨a1, c1, rfl, ha1, hW1, bel⟩
  clear T
  go_wp2_with fail
  go_loopw [5, 6] (fun b a wr => ∃ (f m : Nat) (ds : List UInt8) (gg c : Nat), Off x f m ds ∧ m < 18446744073709551616 ∧ a = .slice (some ⟨gg, 0, none⟩) (len32 m) c ∧ Words wr gg m ∧ gg < wr.heap.size ∧
      wr.ownsRow w.heap.size 5 1 b ds.length (ds.map bv) ∧ Below w.heap.size w wr) (fun b _ _ => 20 - lenOf b)
  case atStart => exact ⟨20, x, [], a1, c1, Off.start x hm, hm, by rw [hLx], hW1, ha1, World.ownsRow_nil _ _ _ _, bel⟩
  case round =>
    clear hW1 ha1
    obtain ⟨f, m, ds, gg, c2, hO, hm1, rfl, hcell, hgg, hown, hbel⟩ := hrel
    have hBr : w.heap.size ≤ wr.heap.size := hbel.size
    by_cases h0 : m = 0
    · subst h0
      have hl0 : len32 0 = 0 := rfl
      rw [hl0]
      obtain ⟨hdec, hl7, hne⟩ := hO.stop (by omega) hm
      have p0' : wr.cell? ⟨p, 0, none⟩ = some (.bool true) := (hbel.cell (p := ⟨p, 0, none⟩) hp).trans p0
      clear hcell hO hgg hm1
      go_wp2_with (at_builtin; refine wpList_append_own _ rfl _ _ 87 rfl w.heap.size 5 i0 (.int .u8 0) 1 1 Tryz.underlying87 hi hz0 hz1 hz2 rfl (by decide) _ _ _ rfl (hown.alloc _) ⟨wr.heap.size, 0, none⟩ 1 1 [.int .u8 45] rfl rfl ?c1 ?c2 ?c3 ?c4 ?c5 ?_)
      case c1 =>
        intro j u hj
        match j, hj with
        | 0, hj => simp at hj; subst hj; simp [Addr.add]
      case c2 => intro u hu; simp at hu; subst hu; rfl
      case c3 => unfold maxLen; omega
      case c4 => omega
      case c5 => simp; omega
      intro v' w3 hown' hgrow _
      have hown2 : w3.ownsRow w.heap.size 5 1 v' (ds ++ [45]).length ((ds ++ [45]).map bv) := by
        rw [List.length_append, List.map_append]
        exact hown'
      replace hbel : Below w.heap.size w w3 := (hbel.alloc hBr _).grown hgrow (by simp; omega) (fun k e => (own_block hown k e).1)
      have HD : Hid ((ds ++ [45]).reverse = 45 :: Lib.decDigits x) := by
        show (ds ++ [45]).reverse = _
        rw [List.reverse_append, hdec]
        rfl
      clear hown' hgrow hown hdec p0'
      have hl8 : (ds ++ [45]).length ≤ 21 := by simp; omega
      generalize ds ++ [45] = D at *
      have hpos : 0 < D.length := by
        cases D with
        | nil => cases HD.out
        | cons b r => simp
      replace hown := hown2
      clear hown2
      obtain ⟨gb, cap, rfl, hgB, hgb, _, hcs, hfs⟩ := own_at hown hpos
      have hcz : ∀ t, t < D.length → w3.cell? ⟨gb, t, none⟩ = some (bv (rv D 0 t)) := fun t ht => by
        rw [hcs t ht, rv_zero D t ht]
        simp [ht]
      clear hown hcs
      go_wp2_with fail
      go_loopw [8, 9] (fun i j w2 => ∃ k q : Nat, q + k + 1 = D.length ∧ i = .int .i64 k ∧ j = .int .i64 q ∧ (∀ t, t < D.length → w2.cell? ⟨gb, t, none⟩ = some (bv (rv D k t))) ∧ (∀ t, w2.frozen? ⟨gb, t, none⟩ = false) ∧ Below w.heap.size w w2) (fun i j _ => (RowKit.intOf j - RowKit.intOf i).toNat)
      case atStart =>
        have e9 : Value.int .i64 ((D.length : Int) - 1) = .int .i64 ((D.length - 1 : Nat) : Int) := by go_num
        exact ⟨0, D.length - 1, by omega, rfl, e9, hcz, hfs, hbel⟩
      case round =>
        obtain ⟨k, q, hq, rfl, rfl, hc2, hf2, hb2⟩ := hrel
        by_cases hlt : k < q
        · have S := swap_cells hq hlt hc2
          have ck : wr.cell? ⟨gb, k, none⟩ = some (.int .u8 ((rv D k k).toNat : Int)) := hc2 k (by omega)
          have cq : wr.cell? ⟨gb, q, none⟩ = some (.int .u8 ((rv D k q).toNat : Int)) := hc2 q (by omega)
          have cq' : ∀ v, (wr.setCell ⟨gb, k, none⟩ v).cell? ⟨gb, q, none⟩ = some (.int .u8 ((rv D k q).toNat : Int)) := fun v => (World.cell?_setCell_other _ _ _ _ (addr_ne (by omega))).trans cq
          have HQ : Hid (q + k + 1 = D.length) := hq
          have kl : k < D.length := by omega
          have ql : q < D.length := by omega
          have HS : Hid (∀ t, t < D.length → ((wr.setCell ⟨gb, k, none⟩ (.int .u8 ((rv D k q).toNat : Int))).setCell ⟨gb, q, none⟩ (.int .u8 ((rv D k k).toNat : Int))).cell? ⟨gb, t, none⟩ = some (bv (rv D (k + 1) t))) := S
          clear S hc2 hq hcz hfs
          go_wp2
          go_roundw
          case rel =>
            have e8 : Value.int .i64 ((k : Int) + 1) = .int .i64 ((k + 1 : Nat) : Int) := by go_num
            have e9 : Value.int .i64 ((q : Int) - 1) = .int .i64 ((q - 1 : Nat) : Int) := by go_num
            exact ⟨k + 1, q - 1, by have := HQ.out; omega, e8, e9, HS.out, fun t => by simpa using hf2 t, (hb2.setCell hgB _).setCell hgB _⟩
          case measure => simp [RowKit.intOf]; omega
        · have hcv := run_convert_bytes_back (P := Tryz.prog) wr 87 9 5 ⟨gb, 0, none⟩ cap D.reverse Tryz.underlying87 Tryz.underlying5 Tryz.underlying9 (fun t ht => by
            rw [List.length_reverse] at ht
            have h1 := hc2 t ht
            rw [rv_end D k t ht (by omega)] at h1
            rw [addr_add]
            exact h1)
          rw [List.length_reverse] at hcv
          clear hc2 hq hcz hfs hf2
          go_wp2
          go_ret
          exact ⟨str_eq HD.out, hb2⟩
    · have hln : ds.length ≤ 20 := by have := hO.len; omega
      obtain ⟨f', rfl, hO'⟩ := hO.step (by omega)
      have S := small_any gg c2 m wr (by omega) hm1 hcell hgg
      have hLm := len32_pos (u := m) (by omega)
      have hLm' : (0 : Int) < (len32 m : Int) := by omega
      clear hcell
      have d1 : (0 : Int) ≤ (m : Int) % 10 := by omega
      have d2 : (m : Int) % 10 < 10 := by omega
      have hdl := own_len hown
      have Hm1 : Hid (m < 18446744073709551616) := hm1
      have HX : Hid (x < 18446744073709551616) := hm
      clear hm1 hm
      go_wp2_with fail
      refine S.mono ?_
      rintro e w2 ⟨o, c3, rfl, rfl, hW2⟩
      clear S
      go_wp2_with (at_builtin; refine wpList_append_own _ rfl _ _ 87 rfl w.heap.size 5 i0 (.int .u8 0) 1 1 Tryz.underlying87 hi hz0 hz1 hz2 rfl (by decide) _ _ _ rfl ((hown.alloc _).alloc _) ⟨wr.heap.size + 1, 0, none⟩ 1 1 [.int .u8 (48 + (m : Int) % 10)] rfl rfl ?c1 ?c2 ?c3 ?c4 ?c5 ?_)
      case c1 =>
        intro j u hj
        match j, hj with
        | 0, hj => simp at hj; subst hj; simp [Addr.add]
      case c2 => intro u hu; simp at hu; subst hu; rfl
      case c3 => unfold maxLen; omega
      case c4 => omega
      case c5 => simp; omega
      intro v' w3 hown' hgrow _
      have R := off_world hown hbel hBr hW2 hgrow
      have hl' := own_len hown'
      have hs' := hO.len
      have ho' := own_digit (m := m) rfl hown'
      clear hown' hgrow hown hW2
      go_wp2
      go_roundw
      case rel => exact ⟨f', m / 10, _, wr.heap.size, c3, hO', by have := Hm1.out; omega, rfl, R.1, R.2.1, ho', R.2.2⟩
      case measure => rw [hl', hdl]; omega

theorem itoa_neg (u : Nat) (h : 1 ≤ u) : Lib.itoa (-(u : Int)) = 45 :: Lib.decDigits u := by
  unfold Lib.itoa
  rw [if_pos (by omega)]
  congr 2
  omega

theorem num_cells (w : World) (neg : Bool) (u : Nat) : (numW w neg u).cell? ⟨w.heap.size, 0, none⟩ = some (.bool neg) ∧ (numW w neg u).cell? ⟨w.heap.size, 1, none⟩ = some (.slice (some ⟨w.heap.size + 1, 0, none⟩) (len32 u) 2) ∧ Words (numW w neg u) (w.heap.size + 1) u ∧ w.heap.size < (numW w neg u).heap.size ∧ Below w.heap.size w (numW w neg u) := by
  unfold numW
  refine ⟨by simp, by simp, ⟨fun _ => by simp, fun _ => by simp⟩, by simp; omega, ((Below.refl _ _).alloc (Nat.le_refl _) _).alloc (by simp) _⟩

end Go.Proofs.YtnmdhbejjjmdeaaGreatDoor
