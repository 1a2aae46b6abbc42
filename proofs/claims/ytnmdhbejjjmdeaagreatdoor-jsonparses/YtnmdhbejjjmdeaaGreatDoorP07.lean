/-
  What is proved: the function Itoa writes any number of 64 bits. the function Show of package value, and that of package bookref1, called with a value that is no object, return how it is shown, and nothing that was there has turned. the text of a tree, as mathematics: its equations, and how long it is at most. the function Get of bookref3, called with a tree and a path that lie in memory, answers the tree at the path's end, or that there is none.
  Conditions: as each theorem says.
-/
import Derived.Test.YtnmdhbejjjmdeaaGreatDoorP01
import Derived.Test.YtnmdhbejjjmdeaaGreatDoorShelf
import Derived.Deep.RegionWith
import Derived.WalkSmall
import Derived.Lib.ItoaLen
import Derived.Test.YtnmdhbejjjmdeaaGreatDoorP02
import Derived.Test.YtnmdhbejjjmdeaaGreatDoorP05
import Derived.Test.YtnmdhbejjjmdeaaGreatDoorTextA
import Derived.Test.YtnmdhbejjjmdeaaGreatDoorP04
namespace Go.Proofs.YtnmdhbejjjmdeaaGreatDoor
open Go.RowKit Go.Sort

/-- The table of powers of ten lies as the text lays it. -/
def Tab (w : World) : Prop := Lib.TabIs Tryz.prog w "internal/strconv.uint64pow10" .u64 Lib.pow10Tab

theorem lt_of_var {w : World} {n : String} {g : Nat} {cs : Array Value} (hg : Tryz.prog.globalNamed n = some g) (h : w.var? Tryz.prog n = some cs) : g < w.heap.size := by
  unfold World.var? at h
  rw [hg] at h
  simp only [Option.bind_some] at h
  by_cases hz : g < w.heap.size
  · exact hz
  · rw [Array.getElem?_eq_none (by omega)] at h
    simp at h

theorem pow10_g : Tryz.prog.globalNamed "internal/strconv.uint64pow10" = some 5 := by kernel_rfl

theorem Tab.below {w w' : World} (h : Tab w) (hb : Below w.heap.size w w') : Tab w' :=
  var?_below hb pow10_g (lt_of_var pow10_g h) h

theorem below_grow (w : World) (k : Nat) (os : Array Obj) : Below w.heap.size w (grow (w.drewN k) os) :=
  ⟨rfl, rfl, rfl, by rw [size_grow]; exact Nat.le_add_right _ _, fun _ h => heap_grow_old (w.drewN k) os h⟩

theorem itoa_any (n : Int) (h0 : -9223372036854775808 ≤ n) (h1 : n ≤ 9223372036854775807) (w : World) (ht : Tab w) :
    Calls Tryz.prog 48 #[.int .i64 n] w fun e w' => e = .returned (.string ⟨(Lib.itoa n).toArray⟩) ∧ Below w.heap.size w w' :=
  (Tryz.strconv_Itoa n h0 h1 w ht).mono fun _ _ ⟨he, k, os, hw⟩ => ⟨he, hw ▸ below_grow w k os⟩
end Go.Proofs.YtnmdhbejjjmdeaaGreatDoor

namespace Go.Proofs.YtnmdhbejjjmdeaaGreatDoor
open Go.RowKit Go.Sort

/-- How a value that is no object is shown. -/
def showV (v : V) : List UInt8 :=
  if v.k = 1 then (if v.n = 1 then [116, 114, 117, 101] else [102, 97, 108, 115, 101])
  else if v.k = 2 ∨ v.k = 4 then Lib.itoa v.n
  else if v.k = 3 then quote v.t.data.toList
  else [110, 117, 108, 108]

/-- What Show asks of a value. -/
structure Fit (v : V) : Prop where
  low : -9223372036854775808 ≤ v.n
  high : v.n ≤ 9223372036854775807
  text : v.k = 3 → v.t.size ≤ 60

theorem one_box5 {w : World} {o : Obj} {w1 : World} (hb : Below (w.alloc o).heap.size (w.alloc o) w1) : Below w.heap.size w w1 := ((Below.refl _ _).alloc (Nat.le_refl _) _).trans (hb.mono (by simp))
theorem fit_of' (v : V) (h : okB v = true) (low : -9223372036854775808 ≤ v.n) (high : v.n ≤ 9223372036854775807) : Fit v := by
  have hu : usedB v = true := by
    unfold okB at h
    exact (Bool.and_eq_true_iff.1 h).1
  refine ⟨low, high, fun hk => ?_⟩
  unfold usedB at hu
  rw [hk] at hu
  have : (v.t.size : Int) ≤ 60 := by simpa using hu
  omega

set_option maxRecDepth 100000 in
set_option maxHeartbeats 1000000 in
theorem show_any (v : V) (w : World) (F : Fit v) (h5 : v.k ≠ 5) (h6 : v.k ≠ 6) (ht : Tab w) :
    Calls Tryz.prog 49 #[v.val] w fun e w' => e = .returned (.string ⟨(showV v).toArray⟩) ∧ Below w.heap.size w w' := by
  obtain ⟨k, n, t, o, a⟩ := v
  obtain ⟨f1, f2, f3⟩ := F
  unfold V.val showV
  dsimp only at *
  have T1 : Tab (w.alloc (.cells #[.int .i64 k, .int .i64 n, .string t, .int .i64 o, .int .i64 a] 25)) := ht.below ((Below.refl _ _).alloc (Nat.le_refl _) _)
  by_cases h1 : k = 1
  · subst h1
    rw [if_pos rfl]
    by_cases n1 : n = 1
    · subst n1
      rw [if_pos rfl]
      go_enter Tryz.func49, Tryz.ntmps49
      go_wp2
      go_ret
      exact ⟨rfl, (Below.refl _ _).alloc (Nat.le_refl _) _⟩
    · rw [if_neg n1]
      have n1' : (n == 1) = false := by simpa using n1
      go_enter Tryz.func49, Tryz.ntmps49
      go_wp2
      go_ret
      exact ⟨rfl, (Below.refl _ _).alloc (Nat.le_refl _) _⟩
  rw [if_neg h1]
  by_cases h2 : k = 2
  · subst h2
    rw [if_pos (Or.inl rfl)]
    go_enter Tryz.func49, Tryz.ntmps49
    go_wp2_with (go_at_call 48; refine (itoa_any n f1 f2 _ T1).mono ?_; rintro e w1 ⟨rfl, hb⟩)
    go_ret
    exact ⟨rfl, one_box5 hb⟩
  by_cases h4 : k = 4
  · subst h4
    rw [if_pos (Or.inr rfl)]
    go_enter Tryz.func49, Tryz.ntmps49
    go_wp2_with (go_at_call 48; refine (itoa_any n f1 f2 _ T1).mono ?_; rintro e w1 ⟨rfl, hb⟩)
    go_ret
    exact ⟨rfl, one_box5 hb⟩
  rw [if_neg (by omega)]
  by_cases h3 : k = 3
  · subst h3
    rw [if_pos rfl]
    have ft := f3 rfl
    go_enter Tryz.func49, Tryz.ntmps49
    go_wp2_with (go_at_call 67; refine (quote_any t _ (by omega)).mono ?_; rintro e w1 ⟨rfl, hb⟩)
    go_ret
    exact ⟨rfl, one_box5 hb⟩
  rw [if_neg h3]
  have h5' : (k == 5) = false := by simpa using h5
  have h6' : (k == 6) = false := by simpa using h6
  go_enter Tryz.func49, Tryz.ntmps49
  go_wp2
  go_ret
  exact ⟨rfl, (Below.refl _ _).alloc (Nat.le_refl _) _⟩

end Go.Proofs.YtnmdhbejjjmdeaaGreatDoor

namespace Go.Proofs.YtnmdhbejjjmdeaaGreatDoor
open Go.RowKit Go.Sort

/-- What stands ahead of a kid but the first. -/
def sep (i : Nat) : List UInt8 := if i = 0 then [] else [44]
/-- A kid's key, if it has one. -/
def keyT (m : Bool) (ks : List ByteArray) (i : Nat) : List UInt8 := if m = true then quote (ks[i]?.getD ⟨#[]⟩).data.toList ++ [58] else []
/-- A tree's text, out of that of its kids. -/
def wrapT (x : V) (s : List UInt8) : List UInt8 := if x.k = 5 then 123 :: (s ++ [125]) else if x.k = 6 then 91 :: (s ++ [93]) else showV x
/-- The text of kids from one on. -/
def txtF : JF → Bool → List ByteArray → Nat → List UInt8
  | .nil, _, _, _ => []
  | .node _ _ a l r, m, ks, i => (sep i ++ (keyT m ks i ++ wrapT a.1 (txtF l (decide (a.1.k = 5)) a.2 0))) ++ txtF r m ks (i + 1)
/-- The text of a tree. -/
def txtT (T : JT) : List UInt8 := wrapT T.x (txtF T.kids (decide (T.x.k = 5)) T.ks 0)
/-- That of several, from a number on. -/
def txtL (m : Bool) (ks : List ByteArray) : List JT → Nat → List UInt8
  | [], _ => []
  | t :: r, i => (sep i ++ (keyT m ks i ++ txtT t)) ++ txtL m ks r (i + 1)
theorem txtL_nil (m : Bool) (ks : List ByteArray) (i : Nat) : txtL m ks [] i = [] := by rw [txtL]
theorem txtL_cons (m : Bool) (ks : List ByteArray) (t : JT) (r : List JT) (i : Nat) : txtL m ks (t :: r) i = (sep i ++ (keyT m ks i ++ txtT t)) ++ txtL m ks r (i + 1) := by rw [txtL]
theorem txtL_toL (m : Bool) (ks : List ByteArray) (f : JF) (i : Nat) : txtL m ks (toL f) i = txtF f m ks i := by
  induction f generalizing i with
  | nil => rw [toL, txtL_nil, txtF]
  | node b o a l r _ ihr => rw [toL, txtL_cons, ihr, txtF]; rfl
theorem txtT_eq (T : JT) : txtT T = wrapT T.x (txtL (decide (T.x.k = 5)) T.ks T.ts 0) := by rw [txtT, JT.ts, txtL_toL]
theorem txtT_node (x : V) (ks : List ByteArray) (ts : List JT) : txtT (.node x ks ts) = wrapT x (txtL (decide (x.k = 5)) ks ts 0) := by rw [txtT_eq, node_ts]; rfl
theorem txtL_take (m : Bool) (ks : List ByteArray) (l : List JT) (i j : Nat) (hj : j < l.length) : txtL m ks (l.take (j + 1)) i = txtL m ks (l.take j) i ++ (sep (i + j) ++ (keyT m ks (i + j) ++ txtT l[j])) := by
  induction l generalizing i j with
  | nil => simp at hj
  | cons t r ih =>
    cases j with
    | zero => simp [txtL_cons, txtL_nil]
    | succ j =>
      rw [List.take_succ_cons, List.take_succ_cons, txtL_cons, txtL_cons, ih (i + 1) j (by simpa using hj)]
      simp only [List.getElem_cons_succ]
      rw [show i + 1 + j = i + (j + 1) by omega]
      simp only [List.append_assoc]

/-- All its numbers are of 64 bits. -/
def rngF : JF → Prop
  | .nil => True
  | .node _ _ a l r => (-9223372036854775808 ≤ a.1.n ∧ a.1.n ≤ 9223372036854775807) ∧ rngF l ∧ rngF r
def rngT (T : JT) : Prop := (-9223372036854775808 ≤ T.x.n ∧ T.x.n ≤ 9223372036854775807) ∧ rngF T.kids
theorem rngF_toL (f : JF) : rngF f ↔ ∀ t ∈ toL f, rngT t := by
  induction f with
  | nil => simp [rngF, toL]
  | node b o a l r _ ihr =>
    rw [rngF, toL, List.forall_mem_cons, ← ihr]
    exact ⟨fun h => ⟨⟨h.1, h.2.1⟩, h.2.2⟩, fun h => ⟨h.1.1, h.1.2, h.2⟩⟩
theorem rngT_eq (T : JT) : rngT T ↔ (-9223372036854775808 ≤ T.x.n ∧ T.x.n ≤ 9223372036854775807) ∧ ∀ t ∈ T.ts, rngT t := by
  rw [rngT, rngF_toL]; rfl
theorem rngT_node (x : V) (ks : List ByteArray) (ts : List JT) : rngT (.node x ks ts) ↔ (-9223372036854775808 ≤ x.n ∧ x.n ≤ 9223372036854775807) ∧ ∀ t ∈ ts, rngT t := by
  rw [rngT_eq, node_ts]; rfl

theorem up_short : ∀ (ks : List ByteArray) (p : List UInt8), upB p ks = true → ∀ k ∈ ks, k.size ≤ 20
  | [], _, _, k, hk => by cases hk
  | x :: r, p, h, k, hk => by
    rw [upB_cons] at h
    have h1 := Bool.and_eq_true_iff.1 h
    have h2 := Bool.and_eq_true_iff.1 h1.2
    rcases List.mem_cons.1 hk with e | e
    · rw [e]; exact of_decide_eq_true h2.1
    · exact up_short r _ h2.2 k e
theorem quote_len (l : List UInt8) : (quote l).length ≤ 3 * l.length + 2 := by
  have := escs_len l
  unfold quote
  simp
  omega
theorem key_len (m : Bool) (ks : List ByteArray) (i : Nat) (h : ∀ k ∈ ks, k.size ≤ 20) : (keyT m ks i).length ≤ 63 := by
  unfold keyT
  split
  · have h1 := quote_len (ks[i]?.getD ⟨#[]⟩).data.toList
    have h2 : (ks[i]?.getD ⟨#[]⟩).data.toList.length ≤ 20 := by
      rcases Nat.lt_or_ge i ks.length with hi | hi
      · rw [List.getElem?_eq_getElem hi]
        exact h _ (List.getElem_mem hi)
      · rw [List.getElem?_eq_none hi]; simp
    simp only [List.length_append, List.length_cons, List.length_nil]
    omega
  · simp
theorem sep_len (i : Nat) : (sep i).length ≤ 1 := by unfold sep; split <;> simp
theorem show_len (v : V) (F : Fit v) : (showV v).length ≤ 200 := by
  unfold showV
  split
  · split <;> simp
  split
  · have := Lib.itoa_length_le v.n F.low F.high
    omega
  split
  · rename_i h3
    have h1 := quote_len v.t.data.toList
    have h2 : v.t.data.toList.length ≤ 60 := F.text h3
    omega
  · simp
theorem fit_val (v : V) (h : valB v = true) (hr : -9223372036854775808 ≤ v.n ∧ v.n ≤ 9223372036854775807) : Fit v := by
  have hok : okB v = true := by
    unfold valB at h
    exact (Bool.and_eq_true_iff.1 h).1
  exact fit_of' v hok hr.1 hr.2

theorem formed_val {T : JT} (h : formedB T = true) : valB T.x = true := by
  unfold formedB at h
  rw [eachM_eq] at h
  by_cases h1 : (nodeS T.x T.ks T.ts.length ()).1 = true
  · have h2 : nodeB T.x T.ks T.ts.length = true := h1
    unfold nodeB at h2
    exact (Bool.and_eq_true_iff.1 h2).1
  · rw [if_neg h1] at h; cases h
theorem formed_kids {T : JT} (h : formedB T = true) : (T.x.k = 5 → T.ks.length = T.ts.length ∧ upB [] T.ks = true) ∧ (∀ t ∈ T.ts, formedB t = true) ∧ (∀ k ∈ T.ks, k.size ≤ 20) := by
  obtain ⟨h1, h2⟩ := formed_node h
  refine ⟨h1, h2, ?_⟩
  by_cases h5 : T.x.k = 5
  · exact up_short _ _ (h1 h5).2
  · intro k hk
    unfold formedB at h
    rw [eachM_eq] at h
    by_cases hn : (nodeS T.x T.ks T.ts.length ()).1 = true
    · have h3 : nodeB T.x T.ks T.ts.length = true := hn
      unfold nodeB at h3
      rw [if_neg h5] at h3
      have h4 := (Bool.and_eq_true_iff.1 h3).2
      have : T.ks.isEmpty = true := by
        split at h4
        · exact h4
        · exact (Bool.and_eq_true_iff.1 h4).1
      rw [List.isEmpty_iff.1 this] at hk
      cases hk
    · rw [if_neg hn] at h; cases h

theorem txtL_len (m : Bool) (ks : List ByteArray) (hk : ∀ k ∈ ks, k.size ≤ 20) : ∀ (l : List JT) (i : Nat), (∀ t ∈ l, (txtT t).length + 100 ≤ 400 * t.size) → (txtL m ks l i).length ≤ 400 * sizes l
  | [], i, _ => by rw [txtL_nil]; simp
  | t :: r, i, h => by
    have h1 := txtL_len m ks hk r (i + 1) (fun t ht => h t (List.mem_cons_of_mem _ ht))
    have h2 := h t List.mem_cons_self
    have h3 := key_len m ks i hk
    have h4 := sep_len i
    rw [txtL_cons, sizes]
    simp only [List.length_append]
    omega
theorem txtT_len : ∀ (n : Nat) (T : JT), T.size ≤ n → formedB T = true → rngT T → (txtT T).length + 100 ≤ 400 * T.size
  | 0, T, h, _, _ => by have := size_pos T; omega
  | n + 1, T, h, hf, hr => by
    obtain ⟨r1, r2⟩ := (rngT_eq T).1 hr
    obtain ⟨f1, f2, f3⟩ := formed_kids hf
    have hs := size_eq T
    have hm : ∀ t ∈ T.ts, t.size ≤ sizes T.ts := fun t ht => by
      obtain ⟨i, hi, rfl⟩ := List.getElem_of_mem ht
      have e1 := sizes_take T.ts i hi
      have e2 := sizes_le T.ts (i + 1)
      omega
    have hl := txtL_len (decide (T.x.k = 5)) T.ks f3 T.ts 0 (fun t ht => txtT_len n t (by have := hm t ht; omega) (f2 t ht) (r2 t ht))
    rw [txtT_eq]
    unfold wrapT
    split
    · simp only [List.length_cons, List.length_append, List.length_nil]
      omega
    split
    · simp only [List.length_cons, List.length_append, List.length_nil]
      omega
    · have := show_len T.x (fit_val T.x (formed_val hf) r1)
      omega
end Go.Proofs.YtnmdhbejjjmdeaaGreatDoor

namespace Go.Proofs.YtnmdhbejjjmdeaaGreatDoor
open Go.RowKit Go.Sort

/-- A zero tree. -/
abbrev zT : Value := .agg #[.int .i64 0, .int .i64 0, .string ⟨#[]⟩, .int .i64 0, .int .i64 0, .slice none 0 0, .slice none 0 0]
/-- What Get answers. -/
def GetP (w0 : World) (q : Option JT) (e : Ending) : Prop :=
  (∃ t v, q = some t ∧ e = .returned (.tuple #[v, .bool true]) ∧ IsT w0 v t) ∨ (q = none ∧ e = .returned (.tuple #[zT, .bool false]))

theorem cell_in {W : World} {a : Addr} {v : Value} (h : W.cell? a = some v) : a.block < W.heap.size := by
  unfold World.cell? at h
  cases hb : W.heap[a.block]? with
  | none => rw [hb] at h; simp at h
  | some o => exact lt_of_heap hb
theorem keep9 {W W' : World} {p0 p1 p2 p3 p4 p5 p6 p7 p8 : Addr} {v0 v1 v2 v3 v4 v5 v6 v7 v8 : Value} (h : W.cell? p0 = some v0 ∧ W.cell? p1 = some v1 ∧ W.cell? p2 = some v2 ∧ W.cell? p3 = some v3 ∧ W.cell? p4 = some v4 ∧ W.cell? p5 = some v5 ∧ W.cell? p6 = some v6 ∧ W.cell? p7 = some v7 ∧ W.cell? p8 = some v8) (hb : Below W.heap.size W W') :
    W'.cell? p0 = some v0 ∧ W'.cell? p1 = some v1 ∧ W'.cell? p2 = some v2 ∧ W'.cell? p3 = some v3 ∧ W'.cell? p4 = some v4 ∧ W'.cell? p5 = some v5 ∧ W'.cell? p6 = some v6 ∧ W'.cell? p7 = some v7 ∧ W'.cell? p8 = some v8 := by
  obtain ⟨h0, h1, h2, h3, h4, h5, h6, h7, h8⟩ := h
  exact ⟨(hb.cell (cell_in h0)).trans h0, (hb.cell (cell_in h1)).trans h1, (hb.cell (cell_in h2)).trans h2, (hb.cell (cell_in h3)).trans h3, (hb.cell (cell_in h4)).trans h4, (hb.cell (cell_in h5)).trans h5, (hb.cell (cell_in h6)).trans h6, (hb.cell (cell_in h7)).trans h7, (hb.cell (cell_in h8)).trans h8⟩
theorem set7 {w : World} {g : Nat} {T : TypeId} {u0 u1 u2 u3 u4 u5 u6 : Value} (h : w.heap[g]? = some (.cells #[u0, u1, u2, u3, u4, u5, u6] T)) (v0 v1 v2 v3 v4 v5 v6 : Value) :
    (((((((w.setCell ⟨g, 0, none⟩ v0).setCell ⟨g, 1, none⟩ v1).setCell ⟨g, 2, none⟩ v2).setCell ⟨g, 3, none⟩ v3).setCell ⟨g, 4, none⟩ v4).setCell ⟨g, 5, none⟩ v5).setCell ⟨g, 6, none⟩ v6).heap[g]? = some (.cells #[v0, v1, v2, v3, v4, v5, v6] T) := by
  have h0 := set_at h 0 v0
  have h1 := set_at h0 1 v1
  have h2 := set_at h1 2 v2
  have h3 := set_at h2 3 v3
  have h4 := set_at h3 4 v4
  have h5 := set_at h4 5 v5
  have h6 := set_at h5 6 v6
  rw [h6]
  simp
theorem set7_below {w w' : World} {g B : Nat} (h : Below B w w') (hB : B ≤ g) (v0 v1 v2 v3 v4 v5 v6 : Value) :
    Below B w (((((((w'.setCell ⟨g, 0, none⟩ v0).setCell ⟨g, 1, none⟩ v1).setCell ⟨g, 2, none⟩ v2).setCell ⟨g, 3, none⟩ v3).setCell ⟨g, 4, none⟩ v4).setCell ⟨g, 5, none⟩ v5).setCell ⟨g, 6, none⟩ v6) :=
  ((((((h.setCell hB v0).setCell hB v1).setCell hB v2).setCell hB v3).setCell hB v4).setCell hB v5).setCell hB v6
theorem set7_other {w : World} {g b : Nat} {o : Obj} (h : w.heap[b]? = some o) (hb : b ≠ g) (v0 v1 v2 v3 v4 v5 v6 : Value) :
    (((((((w.setCell ⟨g, 0, none⟩ v0).setCell ⟨g, 1, none⟩ v1).setCell ⟨g, 2, none⟩ v2).setCell ⟨g, 3, none⟩ v3).setCell ⟨g, 4, none⟩ v4).setCell ⟨g, 5, none⟩ v5).setCell ⟨g, 6, none⟩ v6).heap[b]? = some o := by
  have hs : ∀ (w : World) (i : Nat) (v : Value), w.heap[b]? = some o → (w.setCell ⟨g, i, none⟩ v).heap[b]? = some o := fun w i v h => by rw [Below.heap_setCell _ _ _ _ (by simpa using hb)]; exact h
  exact hs _ _ _ (hs _ _ _ (hs _ _ _ (hs _ _ _ (hs _ _ _ (hs _ _ _ (hs _ _ _ h))))))

end Go.Proofs.YtnmdhbejjjmdeaaGreatDoor
