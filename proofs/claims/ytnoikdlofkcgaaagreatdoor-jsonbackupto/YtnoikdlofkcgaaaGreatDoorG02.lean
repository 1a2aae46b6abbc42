/-
  What is proved: the function areKeys of package json answers whether keys rise by bytes, none being empty or longer than 20. the function Count of bookref3, called with a tree that lies in memory and a number, answers how many trees there are in it, or that number and one, whichever is less. package value's Check returns nothing of what chapter 2 calls a value, and the error of range of what is none; and nothing that was there has turned. the functions isValue and isTree of package json answer whether a value may stand in a tree, and whether a tree is one but for its kids.
  Conditions: as each theorem says.
-/
import Derived.Test.YtnoikdlofkcgaaaGreatDoorG01
import Derived.Sort.Walk0
import Derived.Deep.CutBlock
import Derived.Deep.RegionHeld3
import Derived.Handy
import Derived.Deep.RegionWith
namespace Go.Proofs.YtnoikdlofkcgaaaGreatDoor
open Go.RowKit Go.Sort

/-- Keys that rise behind a text, none of them too long. -/
def upB : List UInt8 → List ByteArray → Bool
  | _, [] => true
  | p, k :: r => decide (p < k.toList) && (decide (k.size ≤ 20) && upB k.toList r)

theorem upB_cons (p : List UInt8) (k : ByteArray) (r : List ByteArray) : upB p (k :: r) = (decide (p < k.toList) && (decide (k.size ≤ 20) && upB k.toList r)) := rfl
theorem no_bytes : (ByteArray.mk #[]).toList = [] := by
  unfold ByteArray.toList ByteArray.toList.loop
  rfl
theorem leq_no {x y : List UInt8} (h : x < y) : Op.bytesLess y x = false ∧ (y == x) = false := by
  rw [bytesLess_eq]
  refine ⟨decide_eq_false (fun h' => List.lt_irrefl _ (List.lt_trans h h')), ?_⟩
  cases e : y == x with
  | false => rfl
  | true => rw [eq_of_beq e] at h; exact absurd h (List.lt_irrefl _)
theorem leq_yes {x y : List UInt8} (h : ¬ x < y) : Op.bytesLess y x = true ∨ (Op.bytesLess y x = false ∧ (y == x) = true) := by
  rw [bytesLess_eq]
  by_cases h' : y < x
  · exact Or.inl (decide_eq_true h')
  · exact Or.inr ⟨decide_eq_false h', by rw [List.le_antisymm (List.not_lt.1 h) (List.not_lt.1 h')]; exact beq_self_eq_true _⟩

set_option maxRecDepth 100000 in
set_option maxHeartbeats 4000000 in
theorem areKeys_any (v : Value) (ks : List ByteArray) (w : World) (hv : IsStrs w v ks) :
    Calls Tryz.prog 47 #[v] w fun e w' => e = .returned (.bool (upB [] ks)) ∧ Below w.heap.size w w' := by
  obtain ⟨a, cap, rfl, h1, h2, h3⟩ := hv
  have H3 : Hid (ks ≠ [] → ∃ b off, a = some ⟨b, off, none⟩ ∧ _) := h3
  have HZ : Hid (ks.length ≤ cap ∧ ks.length ≤ 8796093022208) := ⟨h1.1, h2⟩
  clear h1 h2 h3
  go_enter Tryz.func47, Tryz.ntmps47
  go_wp2_with fail
  go_loopw [3, 5, 8] (fun p _ i wr => ∃ (j : Nat) (q : ByteArray), j ≤ ks.length ∧ i = .int .i64 j ∧ p = .string q ∧ Hid (upB [] ks = upB q.toList (ks.drop j)) ∧ Below w.heap.size w wr) (fun _ _ i _ => ks.length - (RowKit.intOf i).toNat)
  case atStart => exact ⟨0, _, Nat.zero_le _, rfl, rfl, show upB [] ks = _ by rw [no_bytes]; rfl, Below.refl _ _⟩
  case round =>
    obtain ⟨j, q, hj, rfl, rfl, HU, hbel⟩ := hrel
    have HBW : Hid (Below w.heap.size w wr) := hbel
    by_cases hlt : j < ks.length
    · obtain ⟨b, off, rfl, h4, h5⟩ := H3.out (fun e => by rw [e] at hlt; simp at hlt)
      have x0 : wr.cell? ⟨b, off + j, none⟩ = some (.string ks[j]) := by rw [hbel.cell (p := ⟨b, off + j, none⟩) h4]; exact h5 j hlt
      have g1 : (j : Int) < ks.length := by omega
      have g3 : (j : Int) < 8796093022208 := by have := HZ.out; omega
      have HD : Hid (ks.drop j = ks[j] :: ks.drop (j + 1) ∧ j < ks.length) := ⟨List.drop_eq_getElem_cons hlt, hlt⟩
      generalize ks[j] = s at *
      clear h5 hj hbel hlt
      by_cases hs : q.toList < s.toList
      · obtain ⟨e1, e2⟩ := leq_no hs
        by_cases hn : s.size ≤ 20
        · have g5 : ¬ (20 : Int) < s.size := by omega
          have HN : Hid (q.toList < s.toList ∧ s.size ≤ 20) := ⟨hs, hn⟩
          clear hs hn
          go_wp2
          go_roundw
          case rel =>
            refine ⟨j + 1, s, by have := HD.out; omega, by go_num, rfl, show upB [] ks = _ from ?_, HBW.out⟩
            rw [HU.out, HD.out.1]
            rw [upB_cons, decide_eq_true HN.out.1, decide_eq_true HN.out.2, Bool.true_and, Bool.true_and]
          case measure => simp [RowKit.intOf]; have := HD.out; omega
        · have g5 : (20 : Int) < s.size := by omega
          have HN : Hid (¬ s.size ≤ 20) := hn
          clear hs hn
          go_wp2
          go_ret
          refine ⟨?_, HBW.out⟩
          rw [HU.out, HD.out.1]
          rw [upB_cons]
          rw [decide_eq_false HN.out, Bool.false_and, Bool.and_false]
          rfl
      · have HN : Hid (¬ q.toList < s.toList) := hs
        have HF : Hid (upB [] ks = false) := by
          show upB [] ks = false
          rw [HU.out, HD.out.1]
          rw [upB_cons]
          rw [decide_eq_false hs, Bool.false_and]
        rcases leq_yes hs with e1 | ⟨e1, e2⟩
        · clear hs
          go_wp2
          go_ret
          exact ⟨by rw [HF.out]; rfl, HBW.out⟩
        · clear hs
          go_wp2
          go_ret
          exact ⟨by rw [HF.out]; rfl, HBW.out⟩
    · have g1 : ¬ (j : Int) < ks.length := by omega
      have HE : Hid (ks.drop j = []) := List.drop_eq_nil_of_le (by omega)
      clear hlt hj hbel
      go_wp2
      go_ret
      refine ⟨?_, HBW.out⟩
      rw [HU.out, HE.out]
      rfl
end Go.Proofs.YtnoikdlofkcgaaaGreatDoor

namespace Go.Proofs.YtnoikdlofkcgaaaGreatDoor
open Go.RowKit

/-- The box of a tree that a call was handed. -/
abbrev tbox (w : World) (u : TV) : World := w.alloc (.cells #[.int .i64 u.1.k, .int .i64 u.1.n, .string u.1.t, .int .i64 u.1.o, .int .i64 u.1.a, u.2.1, u.2.2] 29)

theorem lt_of_heap {w : World} {g : Nat} {o : Obj} (h : w.heap[g]? = some o) : g < w.heap.size := by
  rcases Nat.lt_or_ge g w.heap.size with h1 | h1
  · exact h1
  · rw [Array.getElem?_eq_none h1] at h; cases h

theorem tcell {w : World} {b off i : Nat} {us : List TV} (h5 : ∀ i (h : i < us.length) j, j < 7 → w.cell? ⟨b, off + i * 7 + j, none⟩ = (tcells us[i])[j]?) (h : i < us.length) (u : TV) (hu : us[i] = u) :
    w.cell? ⟨b, off + i * 7, none⟩ = some (.int .i64 u.1.k) ∧ w.cell? ⟨b, off + i * 7 + 1, none⟩ = some (.int .i64 u.1.n) ∧ w.cell? ⟨b, off + i * 7 + 2, none⟩ = some (.string u.1.t) ∧ w.cell? ⟨b, off + i * 7 + 3, none⟩ = some (.int .i64 u.1.o) ∧ w.cell? ⟨b, off + i * 7 + 4, none⟩ = some (.int .i64 u.1.a) ∧ w.cell? ⟨b, off + i * 7 + 5, none⟩ = some u.2.1 ∧ w.cell? ⟨b, off + i * 7 + 6, none⟩ = some u.2.2 := by
  subst hu
  refine ⟨?_, ?_, ?_, ?_, ?_, ?_, ?_⟩
  · exact h5 i h 0 (by decide)
  · exact h5 i h 1 (by decide)
  · exact h5 i h 2 (by decide)
  · exact h5 i h 3 (by decide)
  · exact h5 i h 4 (by decide)
  · exact h5 i h 5 (by decide)
  · exact h5 i h 6 (by decide)

theorem RowT.cells {w w' : World} {a : Option Addr} {us : List TV} (h : RowT w a us) (hb : Below w.heap.size w w') (i : Nat) (hi : i < us.length) (u : TV) (hu : us[i] = u) :
    ∃ b off, a = some ⟨b, off, none⟩ ∧ b < w.heap.size ∧ w'.cell? ⟨b, off + i * 7, none⟩ = some (.int .i64 u.1.k) ∧ w'.cell? ⟨b, off + i * 7 + 1, none⟩ = some (.int .i64 u.1.n) ∧ w'.cell? ⟨b, off + i * 7 + 2, none⟩ = some (.string u.1.t) ∧ w'.cell? ⟨b, off + i * 7 + 3, none⟩ = some (.int .i64 u.1.o) ∧ w'.cell? ⟨b, off + i * 7 + 4, none⟩ = some (.int .i64 u.1.a) ∧ w'.cell? ⟨b, off + i * 7 + 5, none⟩ = some u.2.1 ∧ w'.cell? ⟨b, off + i * 7 + 6, none⟩ = some u.2.2 := by
  obtain ⟨b, off, e, h4, h5⟩ := h (fun e => by rw [e] at hi; simp at hi)
  refine ⟨b, off, e, h4, ?_⟩
  refine tcell (w := w') (fun i h j hj => ?_) hi u hu
  rw [hb.cell (p := ⟨b, off + i * 7 + j, none⟩) h4]
  exact h5 i h j hj

/-- The cells of a box. -/
theorem tboxed {w' : World} {g : Nat} {u : TV} (h : w'.heap[g]? = some (.cells #[.int .i64 u.1.k, .int .i64 u.1.n, .string u.1.t, .int .i64 u.1.o, .int .i64 u.1.a, u.2.1, u.2.2] 29)) :
    w'.cell? ⟨g, 0, none⟩ = some (.int .i64 u.1.k) ∧ w'.cell? ⟨g, 1, none⟩ = some (.int .i64 u.1.n) ∧ w'.cell? ⟨g, 2, none⟩ = some (.string u.1.t) ∧ w'.cell? ⟨g, 3, none⟩ = some (.int .i64 u.1.o) ∧ w'.cell? ⟨g, 4, none⟩ = some (.int .i64 u.1.a) ∧ w'.cell? ⟨g, 5, none⟩ = some u.2.1 ∧ w'.cell? ⟨g, 6, none⟩ = some u.2.2 :=
  ⟨Lib.cell_of_heap h 0, Lib.cell_of_heap h 1, Lib.cell_of_heap h 2, Lib.cell_of_heap h 3, Lib.cell_of_heap h 4, Lib.cell_of_heap h 5, Lib.cell_of_heap h 6⟩

end Go.Proofs.YtnoikdlofkcgaaaGreatDoor

namespace Go.Proofs.YtnoikdlofkcgaaaGreatDoor
open Go.RowKit Go.Sort

/-- An id, or the root. -/
def IdOk (n a : Int) : Prop := (n = 0 ∧ a = 0) ∨ Real n a
/-- The same, told by a bool. -/
def idOkB (n a : Int) : Bool := decide (n = 0 ∧ a = 0) || decide (1 ≤ n ∧ n ≤ 1000000 ∧ 1 ≤ a ∧ a ≤ 99)
theorem idOk_iff (n a : Int) : idOkB n a = true ↔ IdOk n a := by
  unfold idOkB IdOk Real
  rw [Bool.or_eq_true, decide_eq_true_eq, decide_eq_true_eq]
theorem idOk_no (n a : Int) (h : ¬ IdOk n a) : idOkB n a = false := by
  cases e : idOkB n a with
  | true => exact absurd ((idOk_iff n a).1 e) h
  | false => rfl

/-- Are the fields that a value's kind uses what they may be? -/
def usedB (v : V) : Bool :=
  if v.k = 0 ∨ v.k = 2 ∨ v.k = 4 then true else if v.k = 1 then decide (v.n = 0 ∨ v.n = 1) else if v.k = 3 then decide ((v.t.size : Int) ≤ 60) else if v.k = 5 ∨ v.k = 6 then idOkB v.o v.a else false

/-- A value without the fields that its kind does not use. -/
def onlyV (v : V) : V :=
  if v.k = 1 ∨ v.k = 2 ∨ v.k = 4 then ⟨v.k, v.n, .empty, 0, 0⟩ else if v.k = 3 then ⟨3, 0, v.t, 0, 0⟩ else if v.k = 5 ∨ v.k = 6 then ⟨v.k, 0, .empty, v.o, v.a⟩ else ⟨v.k, 0, .empty, 0, 0⟩

set_option maxRecDepth 100000 in
set_option maxHeartbeats 1000000 in
theorem isUsed_any (v : V) (w : World) :
    Calls Tryz.prog 52 #[v.val] w fun e w' => e = .returned (.bool (usedB v)) ∧ Below w.heap.size w w' := by
  obtain ⟨k, n, t, o, a⟩ := v
  unfold V.val usedB
  dsimp only
  have B1 : ∀ x, Below w.heap.size w (w.alloc x) := fun x => (Below.refl _ _).alloc (Nat.le_refl _) _
  by_cases h0 : k = 0
  · subst h0
    go_enter Tryz.func52, Tryz.ntmps52
    go_wp2
    go_ret
    exact ⟨by simp, B1 _⟩
  by_cases h2 : k = 2
  · subst h2
    go_enter Tryz.func52, Tryz.ntmps52
    go_wp2
    go_ret
    exact ⟨by simp, B1 _⟩
  by_cases h4 : k = 4
  · subst h4
    go_enter Tryz.func52, Tryz.ntmps52
    go_wp2
    go_ret
    exact ⟨by simp, B1 _⟩
  by_cases h1 : k = 1
  · subst h1
    by_cases n0 : n = 0
    · subst n0
      go_enter Tryz.func52, Tryz.ntmps52
      go_wp2
      go_ret
      exact ⟨by simp, B1 _⟩
    by_cases n1 : n = 1
    · subst n1
      go_enter Tryz.func52, Tryz.ntmps52
      go_wp2
      go_ret
      exact ⟨by simp, B1 _⟩
    · go_enter Tryz.func52, Tryz.ntmps52
      go_wp2
      go_ret
      exact ⟨by simp [n0, n1], B1 _⟩
  by_cases h3 : k = 3
  · subst h3
    go_enter Tryz.func52, Tryz.ntmps52
    go_wp2
    go_ret
    exact ⟨by simp, B1 _⟩
  by_cases h56 : k = 5 ∨ k = 6
  · have hc : Calls Tryz.prog 69 #[.agg #[.int .i64 o, .int .i64 a]] (w.alloc (.cells #[.int .i64 k, .int .i64 n, .string t, .int .i64 o, .int .i64 a] 25)) fun e w' => (idOkB o a = true ∧ e = .returned .nilIface ∨ idOkB o a = false ∧ e = .returned (.iface 44 (.int .i64 1))) ∧ Below (w.heap.size + 1) (w.alloc (.cells #[.int .i64 k, .int .i64 n, .string t, .int .i64 o, .int .i64 a] 25)) w' := by
      by_cases r : o = 0 ∧ a = 0
      · obtain ⟨rfl, rfl⟩ := r
        exact (check_root _).mono fun e w' ⟨h, b⟩ => ⟨Or.inl ⟨(idOk_iff _ _).2 (Or.inl ⟨rfl, rfl⟩), h⟩, by simpa using b⟩
      · by_cases R : Real o a
        · exact (check_real o a _ R).mono fun e w' ⟨h, b⟩ => ⟨Or.inl ⟨(idOk_iff _ _).2 (Or.inr R), h⟩, by simpa using b⟩
        · exact (check_bad o a _ ⟨r, R⟩).mono fun e w' ⟨h, b⟩ => ⟨Or.inr ⟨idOk_no _ _ (fun x => x.elim r R), h⟩, by simpa using b⟩
    rcases h56 with h5 | h6
    · subst h5
      go_enter Tryz.func52, Tryz.ntmps52
      go_wp2_with fail
      refine hc.mono ?_
      rintro e w1 ⟨⟨hi, rfl⟩ | ⟨hi, rfl⟩, hb⟩
      · go_wp2
        go_ret
        exact ⟨by simp, (B1 _).trans (hb.mono (by omega))⟩
      · go_wp2
        go_ret
        exact ⟨by simp, (B1 _).trans (hb.mono (by omega))⟩
    · subst h6
      go_enter Tryz.func52, Tryz.ntmps52
      go_wp2_with fail
      refine hc.mono ?_
      rintro e w1 ⟨⟨hi, rfl⟩ | ⟨hi, rfl⟩, hb⟩
      · go_wp2
        go_ret
        exact ⟨by simp, (B1 _).trans (hb.mono (by omega))⟩
      · go_wp2
        go_ret
        exact ⟨by simp, (B1 _).trans (hb.mono (by omega))⟩
  · have h5 : ¬ k = 5 := fun e => h56 (Or.inl e)
    have h6 : ¬ k = 6 := fun e => h56 (Or.inr e)
    clear h56
    go_enter Tryz.func52, Tryz.ntmps52
    go_wp2
    go_ret
    exact ⟨by simp, B1 _⟩

set_option maxRecDepth 100000 in
set_option maxHeartbeats 1000000 in
theorem onlyUsed_any (v : V) (w : World) :
    Calls Tryz.prog 53 #[v.val] w fun e w' => e = .returned (onlyV v).val ∧ Below w.heap.size w w' := by
  obtain ⟨k, n, t, o, a⟩ := v
  by_cases h1 : k = 1
  · subst h1
    have r : onlyV ⟨1, n, t, o, a⟩ = ⟨1, n, .empty, 0, 0⟩ := by simp [onlyV]
    rw [r]
    unfold V.val
    dsimp only
    clear r
    go_enter Tryz.func53, Tryz.ntmps53
    go_wp2
    go_returns
    exact ⟨rfl, by go_grown⟩
  by_cases h2 : k = 2
  · subst h2
    have r : onlyV ⟨2, n, t, o, a⟩ = ⟨2, n, .empty, 0, 0⟩ := by simp [onlyV]
    rw [r]
    unfold V.val
    dsimp only
    clear r
    go_enter Tryz.func53, Tryz.ntmps53
    go_wp2
    go_returns
    exact ⟨rfl, by go_grown⟩
  by_cases h4 : k = 4
  · subst h4
    have r : onlyV ⟨4, n, t, o, a⟩ = ⟨4, n, .empty, 0, 0⟩ := by simp [onlyV]
    rw [r]
    unfold V.val
    dsimp only
    clear r
    go_enter Tryz.func53, Tryz.ntmps53
    go_wp2
    go_returns
    exact ⟨rfl, by go_grown⟩
  by_cases h3 : k = 3
  · subst h3
    have r : onlyV ⟨3, n, t, o, a⟩ = ⟨3, 0, t, 0, 0⟩ := by simp [onlyV]
    rw [r]
    unfold V.val
    dsimp only
    clear r
    go_enter Tryz.func53, Tryz.ntmps53
    go_wp2
    go_returns
    exact ⟨rfl, by go_grown⟩
  by_cases h5 : k = 5
  · subst h5
    have r : onlyV ⟨5, n, t, o, a⟩ = ⟨5, 0, .empty, o, a⟩ := by simp [onlyV]
    rw [r]
    unfold V.val
    dsimp only
    clear r
    go_enter Tryz.func53, Tryz.ntmps53
    go_wp2
    go_returns
    exact ⟨rfl, by go_grown⟩
  by_cases h6 : k = 6
  · subst h6
    have r : onlyV ⟨6, n, t, o, a⟩ = ⟨6, 0, .empty, o, a⟩ := by simp [onlyV]
    rw [r]
    unfold V.val
    dsimp only
    clear r
    go_enter Tryz.func53, Tryz.ntmps53
    go_wp2
    go_returns
    exact ⟨rfl, by go_grown⟩
  have r : onlyV ⟨k, n, t, o, a⟩ = ⟨k, 0, .empty, 0, 0⟩ := by simp [onlyV, h1, h2, h3, h4, h5, h6]
  rw [r]
  unfold V.val
  dsimp only
  clear r
  go_enter Tryz.func53, Tryz.ntmps53
  go_wp2
  go_returns
  exact ⟨rfl, by go_grown⟩

/-- Two values are one. -/
def sameB (v u : V) : Bool := v.k == u.k && (v.n == u.n && (v.t.toList == u.t.toList && (v.o == u.o && v.a == u.a)))

set_option maxRecDepth 100000 in
theorem eqV (v u : V) (w : World) : (Op.equalIn 10000 25 v.val u.val).run Tryz.prog w = .ok (sameB v u) w := by
  obtain ⟨k, n, t, o, a⟩ := v
  obtain ⟨k', n', t', o', a'⟩ := u
  unfold V.val sameB
  dsimp only
  go_simp
  by_cases h1 : k = k' <;> by_cases h2 : n = n' <;> by_cases h3 : t.toList = t'.toList <;> by_cases h4 : o = o' <;> by_cases h5 : a = a' <;> simp [h1, h2, h3, h4, h5]


set_option maxRecDepth 100000 in
set_option maxHeartbeats 2000000 in
theorem checkV_used (v : V) (w : World) (hu : usedB v = true) :
    Calls Tryz.prog 34 #[v.val] w fun e w' => e = .returned (if sameB v (onlyV v) = true then .nilIface else .iface 44 (.int .i64 1)) ∧ Below w.heap.size w w' := by
  have H1 := isUsed_any v
  have H2 := onlyUsed_any v
  rw [hu] at H1
  have H3 := eqV v (onlyV v)
  generalize onlyV v = u at *
  generalize sameB v u = q at *
  obtain ⟨k, n, t, o, a⟩ := v
  obtain ⟨k', n', t', o', a'⟩ := u
  unfold V.val at *
  dsimp only at *
  go_enter Tryz.func34, Tryz.ntmps34
  go_wp2
  go_region_held3 (fun W => W.cell? ⟨w.heap.size, 0, none⟩ = some (.int .i64 k) ∧ W.cell? ⟨w.heap.size, 1, none⟩ = some (.int .i64 n) ∧ W.cell? ⟨w.heap.size, 2, none⟩ = some (.string t) ∧ W.cell? ⟨w.heap.size, 3, none⟩ = some (.int .i64 o) ∧ W.cell? ⟨w.heap.size, 4, none⟩ = some (.int .i64 a)) (first | go_keep | (refine ⟨?_, ?_, ?_, ?_, ?_⟩ <;> (refine (hb1.cell ?_).trans ?_ <;> first | (simp; done) | (simp; omega))) | (refine ⟨?_, ?_, ?_, ?_, ?_⟩ <;> (refine (hb2.cell ?_).trans ?_ <;> first | assumption | (simp; done) | (have hz := hb1.size; simp at hz; simp; omega) | (refine (hb1.cell ?_).trans ?_ <;> first | (simp; done) | (simp; omega))))) (first
    | (go_at_call 52; refine (H1 _).mono ?_; rintro e w1 ⟨rfl, hb1⟩)
    | (go_at_call 53; refine (H2 _).mono ?_; rintro e w2 ⟨rfl, hb2⟩))
  have B2 : Below w.heap.size w w2 := (((Below.refl _ _).alloc (Nat.le_refl _) _).drew.trans (hb1.mono (by simp))).trans (hb2.mono (by have hz := hb1.size; simp at hz; omega))
  clear hb1 hb2 H1 H2 H3
  cases q with
  | true =>
    go_wp2
    go_ret
    exact ⟨rfl, B2⟩
  | false =>
    go_wp2
    go_ret
    exact ⟨rfl, B2⟩

set_option maxRecDepth 100000 in
set_option maxHeartbeats 2000000 in
theorem checkV_not (v : V) (w : World) (hu : usedB v = false) :
    Calls Tryz.prog 34 #[v.val] w fun e w' => e = .returned (.iface 44 (.int .i64 1)) ∧ Below w.heap.size w w' := by
  have H1 := isUsed_any v
  rw [hu] at H1
  obtain ⟨k, n, t, o, a⟩ := v
  unfold V.val at *
  dsimp only at *
  go_enter Tryz.func34, Tryz.ntmps34
  go_wp2
  go_region_with (go_at_call 52; refine (H1 _).mono ?_; rintro e w1 ⟨rfl, hb1⟩)
  all_goals
    go_wp2
    go_ret
    exact ⟨rfl, ((Below.refl _ _).alloc (Nat.le_refl _) _).drew.trans (hb1.mono (by simp))⟩

/-- Is it a value? -/
def okB (v : V) : Bool := usedB v && sameB v (onlyV v)

theorem checkV_any (v : V) (w : World) :
    Calls Tryz.prog 34 #[v.val] w fun e w' => e = .returned (if okB v = true then .nilIface else .iface 44 (.int .i64 1)) ∧ Below w.heap.size w w' := by
  cases hu : usedB v with
  | true =>
    refine (checkV_used v w hu).mono ?_
    rintro e w' ⟨rfl, hb⟩
    exact ⟨by simp [okB, hu], hb⟩
  | false =>
    refine (checkV_not v w hu).mono ?_
    rintro e w' ⟨rfl, hb⟩
    exact ⟨by simp [okB, hu], hb⟩
end Go.Proofs.YtnoikdlofkcgaaaGreatDoor

namespace Go.Proofs.YtnoikdlofkcgaaaGreatDoor
open Go.RowKit

/-- May a tree have this value? -/
def valB (x : V) : Bool := okB x && (decide (x.k ≠ 4) && decide (x.o = 0 ∧ x.a = 0))
/-- Is it a tree, but for its kids, of which there are so many? -/
def nodeB (x : V) (ks : List ByteArray) (n : Nat) : Bool :=
  valB x && (if x.k = 5 then decide (ks.length = n) && upB [] ks else if x.k = 6 then ks.isEmpty else ks.isEmpty && decide (n = 0))

set_option maxRecDepth 100000 in
set_option maxHeartbeats 4000000 in
theorem isValue_any (x : V) (w : World) :
    Calls Tryz.prog 14 #[x.val] w fun e w' => e = .returned (.bool (valB x)) ∧ Below w.heap.size w w' := by
  have H := fun W => checkV_any x W
  have HV : Hid (valB x = (okB x && (decide (x.k ≠ 4) && decide (x.o = 0 ∧ x.a = 0)))) := rfl
  generalize valB x = r at *
  generalize okB x = q at *
  obtain ⟨k, n, t, o, a⟩ := x
  unfold V.val at *
  dsimp only at *
  have h0 := (Below.refl w.heap.size w).alloc (Nat.le_refl _) (.cells #[.int .i64 k, .int .i64 n, .string t, .int .i64 o, .int .i64 a] 25)
  have E := H (w.alloc (.cells #[.int .i64 k, .int .i64 n, .string t, .int .i64 o, .int .i64 a] 25))
  have HX : Hid ((w.alloc (.cells #[.int .i64 k, .int .i64 n, .string t, .int .i64 o, .int .i64 a] 25)).heap[w.heap.size]? = some _) := (MapKept.heap_alloc w _).1
  have HB : Hid (Below w.heap.size w _) := h0
  clear H h0
  cases q with
  | false =>
    rw [if_neg (by decide)] at E
    go_enter Tryz.func14, Tryz.ntmps14
    go_wp2_with fail
    go_fit E
    rintro e w1 ⟨rfl, b1⟩
    have HB1 : Hid (Below w.heap.size w w1) := HB.out.trans (b1.mono (by simp))
    clear b1
    go_wp2
    go_ret
    exact ⟨by rw [HV.out]; rfl, HB1.out⟩
  | true =>
    rw [if_pos rfl] at E
    go_enter Tryz.func14, Tryz.ntmps14
    go_wp2_with fail
    go_fit E
    rintro e w1 ⟨rfl, b1⟩
    have HB1 : Hid (Below w.heap.size w w1) := HB.out.trans (b1.mono (by simp))
    have hx := (b1.block _ (lt_of_heap HX.out)).trans HX.out
    have c0 : w1.cell? ⟨w.heap.size, 0, none⟩ = some (.int .i64 k) := Lib.cell_of_heap hx 0
    have c3 : w1.cell? ⟨w.heap.size, 3, none⟩ = some (.int .i64 o) := Lib.cell_of_heap hx 3
    have c4 : w1.cell? ⟨w.heap.size, 4, none⟩ = some (.int .i64 a) := Lib.cell_of_heap hx 4
    clear b1 hx E
    by_cases h4 : k = 4
    · subst h4
      go_wp2
      go_ret
      exact ⟨by rw [HV.out]; rfl, HB1.out⟩
    · have HK : Hid (k ≠ 4) := h4
      have h4' : (k != 4) = true := by simpa using h4
      clear h4
      by_cases ho : o = 0
      · subst ho
        by_cases ha : a = 0
        · subst ha
          go_wp2
          go_ret
          exact ⟨by rw [HV.out, decide_eq_true HK.out]; rfl, HB1.out⟩
        · have ha' : (a == 0) = false := by simpa using ha
          have HA : Hid (¬ a = 0) := ha
          clear ha
          go_wp2
          go_ret
          exact ⟨by rw [HV.out, decide_eq_true HK.out, decide_eq_false (fun h => HA.out h.2)]; rfl, HB1.out⟩
      · have ho' : (o == 0) = false := by simpa using ho
        have HO : Hid (¬ o = 0) := ho
        clear ho
        go_wp2
        go_ret
        exact ⟨by rw [HV.out, decide_eq_true HK.out, decide_eq_false (fun h => HO.out h.1)]; rfl, HB1.out⟩

set_option maxRecDepth 100000 in
set_option maxHeartbeats 4000000 in
theorem isTree_any (x : V) (ks : List ByteArray) (n cap : Nat) (a : Option Addr) (uk : Value) (w : World) (hk : IsStrs w uk ks) (hn : n ≤ 8796093022208) :
    Calls Tryz.prog 30 #[tval (x, uk, .slice a n cap)] w fun e w' => e = .returned (.bool (nodeB x ks n)) ∧ Below w.heap.size w w' := by
  have HV : Hid (nodeB x ks n = (valB x && (if x.k = 5 then decide (ks.length = n) && upB [] ks else if x.k = 6 then ks.isEmpty else ks.isEmpty && decide (n = 0)))) := rfl
  have h0 := (Below.refl w.heap.size w).alloc (Nat.le_refl _) (.cells #[.int .i64 x.k, .int .i64 x.n, .string x.t, .int .i64 x.o, .int .i64 x.a, uk, .slice a n cap] 29)
  have E := isValue_any x (w.alloc (.cells #[.int .i64 x.k, .int .i64 x.n, .string x.t, .int .i64 x.o, .int .i64 x.a, uk, .slice a n cap] 29))
  have HX : Hid ((w.alloc (.cells #[.int .i64 x.k, .int .i64 x.n, .string x.t, .int .i64 x.o, .int .i64 x.a, uk, .slice a n cap] 29)).heap[w.heap.size]? = some _) := (MapKept.heap_alloc w _).1
  have HB : Hid (Below w.heap.size w _) := h0
  have HS : Hid (IsStrs (w.alloc (.cells #[.int .i64 x.k, .int .i64 x.n, .string x.t, .int .i64 x.o, .int .i64 x.a, uk, .slice a n cap] 29)) uk ks) := hk.below h0
  generalize nodeB x ks n = r at *
  generalize valB x = q at *
  obtain ⟨ak, ck, rfl, hkc, hkz, hkm⟩ := hk
  clear hkm
  obtain ⟨k, m, t, o, c⟩ := x
  unfold V.val at *
  unfold tval
  dsimp only at *
  clear h0
  cases q with
  | false =>
    go_enter Tryz.func30, Tryz.ntmps30
    go_wp2_with fail
    go_fit E
    rintro e w1 ⟨rfl, b1⟩
    have HB1 : Hid (Below w.heap.size w w1) := HB.out.trans (b1.mono (by simp))
    clear b1
    go_wp2
    go_ret
    exact ⟨by rw [HV.out]; rfl, HB1.out⟩
  | true =>
    go_enter Tryz.func30, Tryz.ntmps30
    go_wp2_with fail
    go_fit E
    rintro e w1 ⟨rfl, b1⟩
    have HB1 : Hid (Below w.heap.size w w1) := HB.out.trans (b1.mono (by simp))
    have hx := (b1.block _ (lt_of_heap HX.out)).trans HX.out
    have c0 : w1.cell? ⟨w.heap.size, 0, none⟩ = some (.int .i64 k) := Lib.cell_of_heap hx 0
    have c5 : w1.cell? ⟨w.heap.size, 5, none⟩ = some (.slice ak ks.length ck) := Lib.cell_of_heap hx 5
    have c6 : w1.cell? ⟨w.heap.size, 6, none⟩ = some (.slice a n cap) := Lib.cell_of_heap hx 6
    have EK := areKeys_any (.slice ak ks.length ck) ks w1 (HS.out.below b1)
    clear b1 hx E HX HS HB
    have HE : Hid (ks.isEmpty = decide (ks.length = 0)) := by
      show ks.isEmpty = _
      cases ks <;> rfl
    rw [HE.out] at HV
    generalize upB [] ks = up at *
    generalize ks.length = L at *
    have HN : Hid (n ≤ 8796093022208 ∧ L ≤ 8796093022208) := ⟨hn, hkz⟩
    clear hn hkz hkc
    by_cases h5 : k = 5
    · subst h5
      by_cases hl : L = n
      · subst hl
        go_wp2_with fail
        go_fit EK
        rintro e w2 ⟨rfl, b2⟩
        have HB2 : Hid (Below w.heap.size w w2) := HB1.out.trans (b2.mono HB1.out.size)
        clear b2
        go_wp2
        go_ret
        have hv : r = up := by rw [HV.out]; simp
        exact ⟨by rw [hv]; rfl, HB2.out⟩
      · have hl' : ((L : Int) == (n : Int)) = false := by simp only [beq_eq_false_iff_ne]; omega
        have HL : Hid (¬ L = n) := hl
        clear hl
        go_wp2
        go_ret
        have hv : r = false := by rw [HV.out]; simp [HL.out]
        exact ⟨by rw [hv]; rfl, HB1.out⟩
    · by_cases h6 : k = 6
      · subst h6
        by_cases hl : L = 0
        · subst hl
          go_wp2
          go_ret
          have hv : r = true := by rw [HV.out]; simp
          exact ⟨by rw [hv]; rfl, HB1.out⟩
        · have hl' : ((L : Int) == 0) = false := by simp only [beq_eq_false_iff_ne]; omega
          have HL : Hid (¬ L = 0) := hl
          clear hl
          go_wp2
          go_ret
          have hv : r = false := by rw [HV.out]; simp [HL.out]
          exact ⟨by rw [hv]; rfl, HB1.out⟩
      · have HK : Hid (¬ k = 5 ∧ ¬ k = 6) := ⟨h5, h6⟩
        by_cases hl : L = 0
        · subst hl
          by_cases hm : n = 0
          · subst hm
            go_wp2
            go_ret
            have hv : r = true := by rw [HV.out]; simp [HK.out.1, HK.out.2]
            exact ⟨by rw [hv]; rfl, HB1.out⟩
          · have hm' : ((n : Int) == 0) = false := by simp only [beq_eq_false_iff_ne]; omega
            have HM : Hid (¬ n = 0) := hm
            clear hm
            go_wp2
            go_ret
            have hv : r = false := by rw [HV.out]; simp [HK.out.1, HK.out.2, HM.out]
            exact ⟨by rw [hv]; rfl, HB1.out⟩
        · have hl' : ((L : Int) == 0) = false := by simp only [beq_eq_false_iff_ne]; omega
          have HL : Hid (¬ L = 0) := hl
          clear hl
          go_wp2
          go_ret
          have hv : r = false := by rw [HV.out]; simp [HK.out.1, HK.out.2, HL.out]
          exact ⟨by rw [hv]; rfl, HB1.out⟩
end Go.Proofs.YtnoikdlofkcgaaaGreatDoor
