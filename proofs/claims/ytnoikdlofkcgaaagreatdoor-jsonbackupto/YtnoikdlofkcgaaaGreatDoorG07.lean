/-
  What is proved: the function Text of the statements' own package of great numbers prints a number of 64 bits, and its sign, as its decimal digits; and the function Digits of package bookref1 does so. the function Itoa writes any number of 64 bits. the function Show of package value, and that of package bookref1, called with a value that is no object, return how it is shown, and nothing that was there has turned. the text of a tree, as mathematics: its equations, and how long it is at most. the function Get of bookref3, called with a tree and a path that lie in memory, answers the tree at the path's end, or that there is none.
  Conditions: as each theorem says.
-/
import Derived.Test.YtnoikdlofkcgaaaGreatDoorG06
import Derived.Test.YtnoikdlofkcgaaaGreatDoorG01
import Derived.Test.YtnoikdlofkcgaaaGreatDoorShelf
import Derived.Deep.RegionWith
import Derived.WalkSmall
import Derived.Lib.ItoaLen
import Derived.Test.YtnoikdlofkcgaaaGreatDoorG02
import Derived.Test.YtnoikdlofkcgaaaGreatDoorG04
import Derived.Test.YtnoikdlofkcgaaaGreatDoorG05
namespace Go.Proofs.YtnoikdlofkcgaaaGreatDoor
open Go.RowKit

/-- The digits of a number, the least first. -/
def rd : Nat → Nat → List UInt8
  | 0, _ => []
  | f + 1, m => if m = 0 then [] else UInt8.ofNat (48 + m % 10) :: rd f (m / 10)

theorem rd_zero (f : Nat) : rd f 0 = [] := by cases f <;> simp [rd]

theorem rd_rev : ∀ (f u : Nat), u < 10 ^ f → 0 < u → (rd f u).reverse = Lib.decDigits u
  | 0, u, h, h0 => by simp at h; omega
  | f + 1, u, h, h0 => by
    rw [rd, if_neg (by omega)]
    by_cases h10 : u < 10
    · rw [show u / 10 = 0 from by omega, rd_zero, Lib.decDigits_one h10, show u % 10 = u from by omega]
      rfl
    · rw [Lib.decDigits, dif_neg h10, List.reverse_cons, rd_rev f (u / 10) (by rw [Nat.pow_succ] at h; omega) (by omega)]

/-- A byte as a value. -/
def bv (b : UInt8) : Value := .int .u8 (b.toNat : Int)

/-- How far the digits have been taken off. -/
structure Off (x : Nat) (f m : Nat) (ds : List UInt8) : Prop where
  lt : m < 10 ^ f
  all : rd 20 x = ds ++ rd f m
  len : ds.length + f = 20

theorem Off.start (x : Nat) (h : x < 18446744073709551616) : Off x 20 x [] := ⟨by omega, rfl, rfl⟩

theorem Off.step {x f m : Nat} {ds : List UInt8} (h : Off x f m ds) (hm : 0 < m) : ∃ f', f = f' + 1 ∧ Off x f' (m / 10) (ds ++ [UInt8.ofNat (48 + m % 10)]) := by
  cases f with
  | zero => have := h.lt; simp at this; omega
  | succ f =>
    refine ⟨f, rfl, ⟨?_, ?_, ?_⟩⟩
    · have := h.lt
      rw [Nat.pow_succ] at this
      omega
    · rw [h.all, rd, if_neg (by omega)]
      simp
    · have := h.len
      simp
      omega

theorem Off.stop {x f : Nat} {ds : List UInt8} (h : Off x f 0 ds) (hx : 0 < x) (hx' : x < 18446744073709551616) : ds.reverse = Lib.decDigits x ∧ ds.length ≤ 20 ∧ ds ≠ [] := by
  have e : rd 20 x = ds := by rw [h.all, rd_zero]; simp
  have e2 : ds.reverse = Lib.decDigits x := by rw [← e]; exact rd_rev 20 x (by omega) hx
  refine ⟨e2, by have := h.len; omega, fun e3 => ?_⟩
  obtain ⟨b, r, hd⟩ := dec_ne x
  rw [e3, hd] at e2
  cases e2

theorem digit_bv (m : Nat) : bv (UInt8.ofNat (48 + m % 10)) = .int .u8 (48 + (m : Int) % 10) := by
  unfold bv
  rw [digit_nat (m % 10) (by omega)]
  simp

/-- How long a slice is. -/
def lenOf : Value → Nat | .slice _ n _ => n | _ => 0

theorem own_len {w : World} {B : Nat} {e : TypeId} {v : Value} {n : Nat} {xs : List Value} (h : w.ownsRow B e 1 v n xs) : lenOf v = n := by
  rcases h.2 with ⟨rfl, rfl⟩ | ⟨g, cap, cur, rfl, _⟩ <;> rfl

/-- A slice that is not empty, and owned, lies somewhere. -/
theorem own_at {w : World} {B : Nat} {e : TypeId} {v : Value} {n : Nat} {xs : List Value} (h : w.ownsRow B e 1 v n xs) (hn : 0 < n) : ∃ g cap, v = .slice (some ⟨g, 0, none⟩) n cap ∧ B ≤ g ∧ g < w.heap.size ∧ n ≤ cap ∧
    (∀ j, j < n → w.cell? ⟨g, j, none⟩ = xs[j]?) ∧ ∀ j, w.frozen? ⟨g, j, none⟩ = false := by
  rcases h.2 with ⟨rfl, rfl⟩ | ⟨g, cap, cur, rfl, hg, hh, hc, hm, hz, ht⟩
  · omega
  · refine ⟨g, cap, rfl, hg, ?_, hc, fun j hj => h.cellAt j (by omega), fun j => ?_⟩
    · rcases Nat.lt_or_ge g w.heap.size with h1 | h1
      · exact h1
      · rw [Array.getElem?_eq_none h1] at hh; cases hh
    · simp [World.frozen?, hh]

theorem own_digit {w : World} {B m : Nat} {v : Value} {ds : List UInt8} {d : Int} (hd : d = 48 + (m : Int) % 10) (h : w.ownsRow B 5 1 v (ds.length + 1) (ds.map bv ++ [.int .u8 d])) :
    w.ownsRow B 5 1 v (ds ++ [UInt8.ofNat (48 + m % 10)]).length ((ds ++ [UInt8.ofNat (48 + m % 10)]).map bv) := by
  rw [List.length_append, List.map_append, List.map_cons, digit_bv, ← hd]
  exact h

/-- What stands at a place when so many have changed places. -/
def rv (ds : List UInt8) (k t : Nat) : UInt8 := if t < k ∨ ds.length ≤ t + k then ds.getD (ds.length - 1 - t) 0 else ds.getD t 0

theorem rv_zero (ds : List UInt8) (t : Nat) (h : t < ds.length) : rv ds 0 t = ds[t] := by
  unfold rv
  rw [if_neg (by omega)]
  simp [h]

theorem rv_end (ds : List UInt8) (k t : Nat) (h : t < ds.length) (hk : ds.length ≤ k + k + 1) : rv ds k t = ds.reverse[t]'(by simpa using h) := by
  rw [List.getElem_reverse]
  unfold rv
  split
  · rw [List.getD_eq_getElem?_getD, List.getElem?_eq_getElem (by omega)]; rfl
  · rw [List.getD_eq_getElem?_getD, List.getElem?_eq_getElem h]
    have : ds.length - 1 - t = t := by omega
    simp only [this]
    rfl

theorem rv_step (ds : List UInt8) (k t : Nat) (h : k + k + 1 < ds.length) (ht : t < ds.length) : rv ds (k + 1) t = if t = k then rv ds k (ds.length - 1 - k) else if t = ds.length - 1 - k then rv ds k k else rv ds k t := by
  unfold rv
  by_cases h1 : t = k
  · subst h1
    rw [if_pos (by omega), if_pos rfl, if_neg (by omega)]
  · rw [if_neg h1]
    by_cases h2 : t = ds.length - 1 - k
    · rw [if_pos (by omega), if_pos h2, if_neg (by omega), h2]
      congr 1
      omega
    · rw [if_neg h2]
      by_cases h3 : t < k ∨ ds.length ≤ t + k
      · rw [if_pos (by omega), if_pos h3]
      · rw [if_neg (by omega), if_neg h3]

theorem addr_add (g t : Nat) : (⟨g, 0, none⟩ : Addr).add t = ⟨g, t, none⟩ := by cases t <;> simp [Addr.add]
theorem str_eq {a b : List UInt8} (h : a = b) : Ending.returned (.string ⟨a.toArray⟩) = .returned (.string ⟨b.toArray⟩) := by rw [h]
theorem addr_ne {g a b : Nat} (h : a ≠ b) : (⟨g, a, none⟩ : Addr) ≠ ⟨g, b, none⟩ := fun e => h (by injection e)

/-- Two cells that change places. -/
theorem swap_cells {w : World} {g k q : Nat} {ds : List UInt8} (hq : q + k + 1 = ds.length) (hlt : k < q) (hc : ∀ t, t < ds.length → w.cell? ⟨g, t, none⟩ = some (bv (rv ds k t))) :
    ∀ t, t < ds.length → ((w.setCell ⟨g, k, none⟩ (bv (rv ds k q))).setCell ⟨g, q, none⟩ (bv (rv ds k k))).cell? ⟨g, t, none⟩ = some (bv (rv ds (k + 1) t)) := by
  intro t ht
  rw [rv_step ds k t (by omega) ht, show ds.length - 1 - k = q from by omega]
  by_cases h1 : t = q
  · subst h1
    rw [if_neg (by omega), if_pos rfl]
    exact World.cell?_setCell_same _ _ _ ((World.cell?_setCell_other _ _ _ _ (addr_ne (by omega))).trans (hc t ht))
  · rw [World.cell?_setCell_other _ _ _ _ (addr_ne (fun e => h1 e.symm))]
    by_cases h2 : t = k
    · subst h2
      rw [if_pos rfl]
      exact World.cell?_setCell_same _ _ _ (hc t ht)
    · rw [World.cell?_setCell_other _ _ _ _ (addr_ne (fun e => h2 e.symm)), if_neg h2, if_neg h1]
      exact hc t ht

theorem infoB5 : (Tryz.prog.info? 5).map (fun i => (i.zero, i.size, i.bytes)) = some (some (.int .u8 0), 1, 1) := by kernel_rfl

theorem own_block {B : Nat} {wr : World} {v5 : Value} {ds : List UInt8} (own : wr.ownsRow B 5 1 v5 ds.length (ds.map bv)) : ∀ k, v5.ownBlock = some k → B ≤ k ∧ k < wr.heap.size := by
  intro k hk
  obtain ⟨_, h2⟩ := own
  rcases h2 with ⟨rfl, _⟩ | ⟨g, cap, cur, rfl, hg1, hh, _⟩
  · cases hk
  · have hk' : some g = some k := hk
    have := Option.some.inj hk'
    subst this
    refine ⟨hg1, ?_⟩
    rcases Nat.lt_or_ge g wr.heap.size with h | h
    · exact h
    · rw [Array.getElem?_eq_none h] at hh; cases hh

/-- What an append of one digit leaves of the rest. -/
theorem off_world {B q : Nat} {w wr w' : World} {v5 : Value} {ds : List UInt8} {o o2 : Obj} (own : wr.ownsRow B 5 1 v5 ds.length (ds.map bv)) (bel : Below B w wr) (hB : B ≤ wr.heap.size)
    (hW : Words (wr.alloc o) wr.heap.size q) (hg : ((wr.alloc o).alloc o2).grownBy w' v5.ownBlock) :
    Words w' wr.heap.size q ∧ wr.heap.size < w'.heap.size ∧ Below B w w' := by
  have hk := own_block own
  have z : ((wr.alloc o).alloc o2).heap.size = wr.heap.size + 2 := by simp
  have hb : ∀ j, w'.cell? ⟨wr.heap.size, j, none⟩ = (wr.alloc o).cell? ⟨wr.heap.size, j, none⟩ := by
    intro j
    rw [World.cell?_of_block (a := ⟨wr.heap.size, j, none⟩) (hg.block wr.heap.size (by omega) (fun e => by have := (hk _ e.symm).2; omega))]
    exact World.cell?_alloc_past _ _ _ (by simp)
  refine ⟨⟨fun h => (hb 0).trans (hW.1 h), fun h => (hb 1).trans (hW.2 h)⟩, ?_, ?_⟩
  · have := hg.size; omega
  · exact (((bel.alloc hB _).alloc (by simp; omega) _).grown hg (by simp; omega) (fun k e => (hk k e).1))

theorem len32_pos {u : Nat} (h : 1 ≤ u) : 1 ≤ len32 u := by unfold len32; split <;> (try split) <;> omega

theorem itoa_neg (u : Nat) (h : 1 ≤ u) : Lib.itoa (-(u : Int)) = 45 :: Lib.decDigits u := by
  unfold Lib.itoa
  rw [if_pos (by omega)]
  congr 2
  omega

end Go.Proofs.YtnoikdlofkcgaaaGreatDoor

namespace Go.Proofs.YtnoikdlofkcgaaaGreatDoor
open Go.RowKit Go.Sort

/-- The table of powers of ten lies as the text lays it. -/
def Tab (w : World) : Prop := Lib.TabIs Tryz.prog w "internal/strconv.uint64pow10" .u64 Lib.pow10Tab

theorem lt_of_var {w : World} {n : String} {g : Nat} {cs : Array Value} (hg : Tryz.prog.globalNamed n = some g) (h : w.var? Tryz.prog n = some cs) : g < w.heap.size := by
  unfold World.var? at h
  rw [hg] at h
  simp only [Option.bind_some] at h
  by_cases hz : g < w.heap.size
  · exact hz
  · rw [Array.getElem?_eq_none (by omega)] at h
    simp at h

theorem pow10_g : Tryz.prog.globalNamed "internal/strconv.uint64pow10" = some 4 := by kernel_rfl

theorem Tab.below {w w' : World} (h : Tab w) (hb : Below w.heap.size w w') : Tab w' :=
  var?_below hb pow10_g (lt_of_var pow10_g h) h

theorem below_grow (w : World) (k : Nat) (os : Array Obj) : Below w.heap.size w (grow (w.drewN k) os) :=
  ⟨rfl, rfl, rfl, by rw [size_grow]; exact Nat.le_add_right _ _, fun _ h => heap_grow_old (w.drewN k) os h⟩

theorem itoa_any (n : Int) (h0 : -9223372036854775808 ≤ n) (h1 : n ≤ 9223372036854775807) (w : World) (ht : Tab w) :
    Calls Tryz.prog 45 #[.int .i64 n] w fun e w' => e = .returned (.string ⟨(Lib.itoa n).toArray⟩) ∧ Below w.heap.size w w' :=
  (Tryz.strconv_Itoa n h0 h1 w ht).mono fun _ _ ⟨he, k, os, hw⟩ => ⟨he, hw ▸ below_grow w k os⟩
end Go.Proofs.YtnoikdlofkcgaaaGreatDoor

namespace Go.Proofs.YtnoikdlofkcgaaaGreatDoor
open Go.RowKit Go.Sort

/-- How a value that is no object is shown. -/
def showV (v : V) : List UInt8 :=
  if v.k = 1 then (if v.n = 1 then [116, 114, 117, 101] else [102, 97, 108, 115, 101])
  else if v.k = 2 ∨ v.k = 4 then Lib.itoa v.n
  else if v.k = 3 then quote v.t.data.toList
  else [110, 117, 108, 108]

/-- What Show asks of a value. -/
structure Fit (v : V) : Prop where
  low : -9223372036854775808 ≤ v.n
  high : v.n ≤ 9223372036854775807
  text : v.k = 3 → v.t.size ≤ 60

theorem one_box5 {w : World} {o : Obj} {w1 : World} (hb : Below (w.alloc o).heap.size (w.alloc o) w1) : Below w.heap.size w w1 := ((Below.refl _ _).alloc (Nat.le_refl _) _).trans (hb.mono (by simp))
theorem fit_of' (v : V) (h : okB v = true) (low : -9223372036854775808 ≤ v.n) (high : v.n ≤ 9223372036854775807) : Fit v := by
  have hu : usedB v = true := by
    unfold okB at h
    exact (Bool.and_eq_true_iff.1 h).1
  refine ⟨low, high, fun hk => ?_⟩
  unfold usedB at hu
  rw [hk] at hu
  have : (v.t.size : Int) ≤ 60 := by simpa using hu
  omega

set_option maxRecDepth 100000 in
set_option maxHeartbeats 1000000 in
theorem show_any (v : V) (w : World) (F : Fit v) (h5 : v.k ≠ 5) (h6 : v.k ≠ 6) (ht : Tab w) :
    Calls Tryz.prog 33 #[v.val] w fun e w' => e = .returned (.string ⟨(showV v).toArray⟩) ∧ Below w.heap.size w w' := by
  obtain ⟨k, n, t, o, a⟩ := v
  obtain ⟨f1, f2, f3⟩ := F
  unfold V.val showV
  dsimp only at *
  have T1 : Tab (w.alloc (.cells #[.int .i64 k, .int .i64 n, .string t, .int .i64 o, .int .i64 a] 25)) := ht.below ((Below.refl _ _).alloc (Nat.le_refl _) _)
  by_cases h1 : k = 1
  · subst h1
    rw [if_pos rfl]
    by_cases n1 : n = 1
    · subst n1
      rw [if_pos rfl]
      go_enter Tryz.func33, Tryz.ntmps33
      go_wp2
      go_ret
      exact ⟨rfl, (Below.refl _ _).alloc (Nat.le_refl _) _⟩
    · rw [if_neg n1]
      have n1' : (n == 1) = false := by simpa using n1
      go_enter Tryz.func33, Tryz.ntmps33
      go_wp2
      go_ret
      exact ⟨rfl, (Below.refl _ _).alloc (Nat.le_refl _) _⟩
  rw [if_neg h1]
  by_cases h2 : k = 2
  · subst h2
    rw [if_pos (Or.inl rfl)]
    go_enter Tryz.func33, Tryz.ntmps33
    go_wp2_with (go_at_call 45; refine (itoa_any n f1 f2 _ T1).mono ?_; rintro e w1 ⟨rfl, hb⟩)
    go_ret
    exact ⟨rfl, one_box5 hb⟩
  by_cases h4 : k = 4
  · subst h4
    rw [if_pos (Or.inr rfl)]
    go_enter Tryz.func33, Tryz.ntmps33
    go_wp2_with (go_at_call 45; refine (itoa_any n f1 f2 _ T1).mono ?_; rintro e w1 ⟨rfl, hb⟩)
    go_ret
    exact ⟨rfl, one_box5 hb⟩
  rw [if_neg (by omega)]
  by_cases h3 : k = 3
  · subst h3
    rw [if_pos rfl]
    have ft := f3 rfl
    go_enter Tryz.func33, Tryz.ntmps33
    go_wp2_with (go_at_call 49; refine (quote_any t _ (by omega)).mono ?_; rintro e w1 ⟨rfl, hb⟩)
    go_ret
    exact ⟨rfl, one_box5 hb⟩
  rw [if_neg h3]
  have h5' : (k == 5) = false := by simpa using h5
  have h6' : (k == 6) = false := by simpa using h6
  go_enter Tryz.func33, Tryz.ntmps33
  go_wp2
  go_ret
  exact ⟨rfl, (Below.refl _ _).alloc (Nat.le_refl _) _⟩

end Go.Proofs.YtnoikdlofkcgaaaGreatDoor

namespace Go.Proofs.YtnoikdlofkcgaaaGreatDoor
open Go.RowKit Go.Sort

/-- What stands ahead of a kid but the first. -/
def sep (i : Nat) : List UInt8 := if i = 0 then [] else [44]
/-- A kid's key, if it has one. -/
def keyT (m : Bool) (ks : List ByteArray) (i : Nat) : List UInt8 := if m = true then quote (ks[i]?.getD ⟨#[]⟩).data.toList ++ [58] else []
/-- A tree's text, out of that of its kids. -/
def wrapT (x : V) (s : List UInt8) : List UInt8 := if x.k = 5 then 123 :: (s ++ [125]) else if x.k = 6 then 91 :: (s ++ [93]) else showV x
/-- The text of kids from one on. -/
def txtF : JF → Bool → List ByteArray → Nat → List UInt8
  | .nil, _, _, _ => []
  | .node _ _ a l r, m, ks, i => (sep i ++ (keyT m ks i ++ wrapT a.1 (txtF l (decide (a.1.k = 5)) a.2 0))) ++ txtF r m ks (i + 1)
/-- The text of a tree. -/
def txtT (T : JT) : List UInt8 := wrapT T.x (txtF T.kids (decide (T.x.k = 5)) T.ks 0)
/-- That of several, from a number on. -/
def txtL (m : Bool) (ks : List ByteArray) : List JT → Nat → List UInt8
  | [], _ => []
  | t :: r, i => (sep i ++ (keyT m ks i ++ txtT t)) ++ txtL m ks r (i + 1)
theorem txtL_nil (m : Bool) (ks : List ByteArray) (i : Nat) : txtL m ks [] i = [] := by rw [txtL]
theorem txtL_cons (m : Bool) (ks : List ByteArray) (t : JT) (r : List JT) (i : Nat) : txtL m ks (t :: r) i = (sep i ++ (keyT m ks i ++ txtT t)) ++ txtL m ks r (i + 1) := by rw [txtL]
theorem txtL_toL (m : Bool) (ks : List ByteArray) (f : JF) (i : Nat) : txtL m ks (toL f) i = txtF f m ks i := by
  induction f generalizing i with
  | nil => rw [toL, txtL_nil, txtF]
  | node b o a l r _ ihr => rw [toL, txtL_cons, ihr, txtF]; rfl
theorem txtT_eq (T : JT) : txtT T = wrapT T.x (txtL (decide (T.x.k = 5)) T.ks T.ts 0) := by rw [txtT, JT.ts, txtL_toL]
theorem txtT_node (x : V) (ks : List ByteArray) (ts : List JT) : txtT (.node x ks ts) = wrapT x (txtL (decide (x.k = 5)) ks ts 0) := by rw [txtT_eq, node_ts]; rfl
theorem txtL_take (m : Bool) (ks : List ByteArray) (l : List JT) (i j : Nat) (hj : j < l.length) : txtL m ks (l.take (j + 1)) i = txtL m ks (l.take j) i ++ (sep (i + j) ++ (keyT m ks (i + j) ++ txtT l[j])) := by
  induction l generalizing i j with
  | nil => simp at hj
  | cons t r ih =>
    cases j with
    | zero => simp [txtL_cons, txtL_nil]
    | succ j =>
      rw [List.take_succ_cons, List.take_succ_cons, txtL_cons, txtL_cons, ih (i + 1) j (by simpa using hj)]
      simp only [List.getElem_cons_succ]
      rw [show i + 1 + j = i + (j + 1) by omega]
      simp only [List.append_assoc]

/-- All its numbers are of 64 bits. -/
def rngF : JF → Prop
  | .nil => True
  | .node _ _ a l r => (-9223372036854775808 ≤ a.1.n ∧ a.1.n ≤ 9223372036854775807) ∧ rngF l ∧ rngF r
def rngT (T : JT) : Prop := (-9223372036854775808 ≤ T.x.n ∧ T.x.n ≤ 9223372036854775807) ∧ rngF T.kids
theorem rngF_toL (f : JF) : rngF f ↔ ∀ t ∈ toL f, rngT t := by
  induction f with
  | nil => simp [rngF, toL]
  | node b o a l r _ ihr =>
    rw [rngF, toL, List.forall_mem_cons, ← ihr]
    exact ⟨fun h => ⟨⟨h.1, h.2.1⟩, h.2.2⟩, fun h => ⟨h.1.1, h.1.2, h.2⟩⟩
theorem rngT_eq (T : JT) : rngT T ↔ (-9223372036854775808 ≤ T.x.n ∧ T.x.n ≤ 9223372036854775807) ∧ ∀ t ∈ T.ts, rngT t := by
  rw [rngT, rngF_toL]; rfl
theorem rngT_node (x : V) (ks : List ByteArray) (ts : List JT) : rngT (.node x ks ts) ↔ (-9223372036854775808 ≤ x.n ∧ x.n ≤ 9223372036854775807) ∧ ∀ t ∈ ts, rngT t := by
  rw [rngT_eq, node_ts]; rfl

theorem up_short : ∀ (ks : List ByteArray) (p : List UInt8), upB p ks = true → ∀ k ∈ ks, k.size ≤ 20
  | [], _, _, k, hk => by cases hk
  | x :: r, p, h, k, hk => by
    rw [upB_cons] at h
    have h1 := Bool.and_eq_true_iff.1 h
    have h2 := Bool.and_eq_true_iff.1 h1.2
    rcases List.mem_cons.1 hk with e | e
    · rw [e]; exact of_decide_eq_true h2.1
    · exact up_short r _ h2.2 k e
theorem quote_len (l : List UInt8) : (quote l).length ≤ 3 * l.length + 2 := by
  have := escs_len l
  unfold quote
  simp
  omega
theorem key_len (m : Bool) (ks : List ByteArray) (i : Nat) (h : ∀ k ∈ ks, k.size ≤ 20) : (keyT m ks i).length ≤ 63 := by
  unfold keyT
  split
  · have h1 := quote_len (ks[i]?.getD ⟨#[]⟩).data.toList
    have h2 : (ks[i]?.getD ⟨#[]⟩).data.toList.length ≤ 20 := by
      rcases Nat.lt_or_ge i ks.length with hi | hi
      · rw [List.getElem?_eq_getElem hi]
        exact h _ (List.getElem_mem hi)
      · rw [List.getElem?_eq_none hi]; simp
    simp only [List.length_append, List.length_cons, List.length_nil]
    omega
  · simp
theorem sep_len (i : Nat) : (sep i).length ≤ 1 := by unfold sep; split <;> simp
theorem show_len (v : V) (F : Fit v) : (showV v).length ≤ 200 := by
  unfold showV
  split
  · split <;> simp
  split
  · have := Lib.itoa_length_le v.n F.low F.high
    omega
  split
  · rename_i h3
    have h1 := quote_len v.t.data.toList
    have h2 : v.t.data.toList.length ≤ 60 := F.text h3
    omega
  · simp
theorem fit_val (v : V) (h : valB v = true) (hr : -9223372036854775808 ≤ v.n ∧ v.n ≤ 9223372036854775807) : Fit v := by
  have hok : okB v = true := by
    unfold valB at h
    exact (Bool.and_eq_true_iff.1 h).1
  exact fit_of' v hok hr.1 hr.2

theorem formed_val {T : JT} (h : formedB T = true) : valB T.x = true := by
  unfold formedB at h
  rw [eachM_eq] at h
  by_cases h1 : (nodeS T.x T.ks T.ts.length ()).1 = true
  · have h2 : nodeB T.x T.ks T.ts.length = true := h1
    unfold nodeB at h2
    exact (Bool.and_eq_true_iff.1 h2).1
  · rw [if_neg h1] at h; cases h
theorem formed_kids {T : JT} (h : formedB T = true) : (T.x.k = 5 → T.ks.length = T.ts.length ∧ upB [] T.ks = true) ∧ (∀ t ∈ T.ts, formedB t = true) ∧ (∀ k ∈ T.ks, k.size ≤ 20) := by
  obtain ⟨h1, h2⟩ := formed_node h
  refine ⟨h1, h2, ?_⟩
  by_cases h5 : T.x.k = 5
  · exact up_short _ _ (h1 h5).2
  · intro k hk
    unfold formedB at h
    rw [eachM_eq] at h
    by_cases hn : (nodeS T.x T.ks T.ts.length ()).1 = true
    · have h3 : nodeB T.x T.ks T.ts.length = true := hn
      unfold nodeB at h3
      rw [if_neg h5] at h3
      have h4 := (Bool.and_eq_true_iff.1 h3).2
      have : T.ks.isEmpty = true := by
        split at h4
        · exact h4
        · exact (Bool.and_eq_true_iff.1 h4).1
      rw [List.isEmpty_iff.1 this] at hk
      cases hk
    · rw [if_neg hn] at h; cases h

theorem txtL_len (m : Bool) (ks : List ByteArray) (hk : ∀ k ∈ ks, k.size ≤ 20) : ∀ (l : List JT) (i : Nat), (∀ t ∈ l, (txtT t).length + 100 ≤ 400 * t.size) → (txtL m ks l i).length ≤ 400 * sizes l
  | [], i, _ => by rw [txtL_nil]; simp
  | t :: r, i, h => by
    have h1 := txtL_len m ks hk r (i + 1) (fun t ht => h t (List.mem_cons_of_mem _ ht))
    have h2 := h t List.mem_cons_self
    have h3 := key_len m ks i hk
    have h4 := sep_len i
    rw [txtL_cons, sizes]
    simp only [List.length_append]
    omega
theorem txtT_len : ∀ (n : Nat) (T : JT), T.size ≤ n → formedB T = true → rngT T → (txtT T).length + 100 ≤ 400 * T.size
  | 0, T, h, _, _ => by have := size_pos T; omega
  | n + 1, T, h, hf, hr => by
    obtain ⟨r1, r2⟩ := (rngT_eq T).1 hr
    obtain ⟨f1, f2, f3⟩ := formed_kids hf
    have hs := size_eq T
    have hm : ∀ t ∈ T.ts, t.size ≤ sizes T.ts := fun t ht => by
      obtain ⟨i, hi, rfl⟩ := List.getElem_of_mem ht
      have e1 := sizes_take T.ts i hi
      have e2 := sizes_le T.ts (i + 1)
      omega
    have hl := txtL_len (decide (T.x.k = 5)) T.ks f3 T.ts 0 (fun t ht => txtT_len n t (by have := hm t ht; omega) (f2 t ht) (r2 t ht))
    rw [txtT_eq]
    unfold wrapT
    split
    · simp only [List.length_cons, List.length_append, List.length_nil]
      omega
    split
    · simp only [List.length_cons, List.length_append, List.length_nil]
      omega
    · have := show_len T.x (fit_val T.x (formed_val hf) r1)
      omega
end Go.Proofs.YtnoikdlofkcgaaaGreatDoor

namespace Go.Proofs.YtnoikdlofkcgaaaGreatDoor
open Go.RowKit Go.Sort

/-- A zero tree. -/
abbrev zT : Value := .agg #[.int .i64 0, .int .i64 0, .string ⟨#[]⟩, .int .i64 0, .int .i64 0, .slice none 0 0, .slice none 0 0]
/-- What Get answers. -/
def GetP (w0 : World) (q : Option JT) (e : Ending) : Prop :=
  (∃ t v, q = some t ∧ e = .returned (.tuple #[v, .bool true]) ∧ IsT w0 v t) ∨ (q = none ∧ e = .returned (.tuple #[zT, .bool false]))

theorem cell_in {W : World} {a : Addr} {v : Value} (h : W.cell? a = some v) : a.block < W.heap.size := by
  unfold World.cell? at h
  cases hb : W.heap[a.block]? with
  | none => rw [hb] at h; simp at h
  | some o => exact lt_of_heap hb
theorem keep9 {W W' : World} {p0 p1 p2 p3 p4 p5 p6 p7 p8 : Addr} {v0 v1 v2 v3 v4 v5 v6 v7 v8 : Value} (h : W.cell? p0 = some v0 ∧ W.cell? p1 = some v1 ∧ W.cell? p2 = some v2 ∧ W.cell? p3 = some v3 ∧ W.cell? p4 = some v4 ∧ W.cell? p5 = some v5 ∧ W.cell? p6 = some v6 ∧ W.cell? p7 = some v7 ∧ W.cell? p8 = some v8) (hb : Below W.heap.size W W') :
    W'.cell? p0 = some v0 ∧ W'.cell? p1 = some v1 ∧ W'.cell? p2 = some v2 ∧ W'.cell? p3 = some v3 ∧ W'.cell? p4 = some v4 ∧ W'.cell? p5 = some v5 ∧ W'.cell? p6 = some v6 ∧ W'.cell? p7 = some v7 ∧ W'.cell? p8 = some v8 := by
  obtain ⟨h0, h1, h2, h3, h4, h5, h6, h7, h8⟩ := h
  exact ⟨(hb.cell (cell_in h0)).trans h0, (hb.cell (cell_in h1)).trans h1, (hb.cell (cell_in h2)).trans h2, (hb.cell (cell_in h3)).trans h3, (hb.cell (cell_in h4)).trans h4, (hb.cell (cell_in h5)).trans h5, (hb.cell (cell_in h6)).trans h6, (hb.cell (cell_in h7)).trans h7, (hb.cell (cell_in h8)).trans h8⟩
theorem set7 {w : World} {g : Nat} {T : TypeId} {u0 u1 u2 u3 u4 u5 u6 : Value} (h : w.heap[g]? = some (.cells #[u0, u1, u2, u3, u4, u5, u6] T)) (v0 v1 v2 v3 v4 v5 v6 : Value) :
    (((((((w.setCell ⟨g, 0, none⟩ v0).setCell ⟨g, 1, none⟩ v1).setCell ⟨g, 2, none⟩ v2).setCell ⟨g, 3, none⟩ v3).setCell ⟨g, 4, none⟩ v4).setCell ⟨g, 5, none⟩ v5).setCell ⟨g, 6, none⟩ v6).heap[g]? = some (.cells #[v0, v1, v2, v3, v4, v5, v6] T) := by
  have h0 := set_at h 0 v0
  have h1 := set_at h0 1 v1
  have h2 := set_at h1 2 v2
  have h3 := set_at h2 3 v3
  have h4 := set_at h3 4 v4
  have h5 := set_at h4 5 v5
  have h6 := set_at h5 6 v6
  rw [h6]
  simp
theorem set7_below {w w' : World} {g B : Nat} (h : Below B w w') (hB : B ≤ g) (v0 v1 v2 v3 v4 v5 v6 : Value) :
    Below B w (((((((w'.setCell ⟨g, 0, none⟩ v0).setCell ⟨g, 1, none⟩ v1).setCell ⟨g, 2, none⟩ v2).setCell ⟨g, 3, none⟩ v3).setCell ⟨g, 4, none⟩ v4).setCell ⟨g, 5, none⟩ v5).setCell ⟨g, 6, none⟩ v6) :=
  ((((((h.setCell hB v0).setCell hB v1).setCell hB v2).setCell hB v3).setCell hB v4).setCell hB v5).setCell hB v6
theorem set7_other {w : World} {g b : Nat} {o : Obj} (h : w.heap[b]? = some o) (hb : b ≠ g) (v0 v1 v2 v3 v4 v5 v6 : Value) :
    (((((((w.setCell ⟨g, 0, none⟩ v0).setCell ⟨g, 1, none⟩ v1).setCell ⟨g, 2, none⟩ v2).setCell ⟨g, 3, none⟩ v3).setCell ⟨g, 4, none⟩ v4).setCell ⟨g, 5, none⟩ v5).setCell ⟨g, 6, none⟩ v6).heap[b]? = some o := by
  have hs : ∀ (w : World) (i : Nat) (v : Value), w.heap[b]? = some o → (w.setCell ⟨g, i, none⟩ v).heap[b]? = some o := fun w i v h => by rw [Below.heap_setCell _ _ _ _ (by simpa using hb)]; exact h
  exact hs _ _ _ (hs _ _ _ (hs _ _ _ (hs _ _ _ (hs _ _ _ (hs _ _ _ (hs _ _ _ h))))))

end Go.Proofs.YtnoikdlofkcgaaaGreatDoor
