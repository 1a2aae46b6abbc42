/-
  What is proved: errors.As, asked of an Errno for an Errno, says yes and sets it; the functions Told of package plain and Error of package booksame, called with nil or with an Errno. the functions Told of package plain and Error of package booksame at nil and at an Errno; the functions Root, Real, Id and Less of package bookref1 at any id. the function Value of package bookref1, called with whatever fields, tells just as package value's Check whether it is a value; and nothing that was there has turned. the function Formed of bookref3, called with a tree that lies in memory, answers whether it is one, the same that package json's isTree answers of each tree in it.
  Conditions: as each theorem says.
-/
import Derived.Test.YtnoikdlofkcgaaaGreatDoorProg
import Derived.WalkKit
import Derived.WalkSpells
import Derived.WalkLawsBesides
import Derived.LaidEql
import Derived.Stop.Asserts
import Derived.RowKitTokens
import Derived.Test.YtnoikdlofkcgaaaGreatDoorG01
import Derived.Test.YtnoikdlofkcgaaaGreatDoorG02
import Derived.Test.YtnoikdlofkcgaaaGreatDoorJEach
import Derived.OrdersHeld
import Derived.Deep.RegionHeld
namespace Go.Proofs.YtnoikdlofkcgaaaGreatDoor
namespace asErr
open Go.RowKit Go.Extern.Stop Go.Stop Go.Extern

theorem kind39 (w : World) : ((ReflectliteType.abiMethod fun t => (fun a : Nat => Value.int IntKind.u8 (a : Int)) <$> Rtype.kind t) #[.pointer (some ⟨8, 44, none⟩)]).run Tryz.prog w = .ok (.int .u8 2) w := by kernel_rfl
theorem valueOf39 (e : Int) (w : World) : (ReflectliteValue.unpack (.iface 44 (.int .i64 e))).run Tryz.prog w
    = .ok (.agg #[.pointer (some ⟨8, 44, none⟩), .pointer (some ⟨w.heap.size, 0, none⟩), .int .u64 130]) (w.alloc (.cells #[.int .i64 e] 44)) := by kernel_rfl
theorem mk39 (p : Addr) (w : World) : (ReflectliteValue.mk 44 p ReflectliteValue.flagAddr).run Tryz.prog w = .ok (.agg #[.pointer (some ⟨8, 44, none⟩), .pointer (some p), .int .u64 386]) w := by kernel_rfl
theorem parts39a (a : Addr) (w : World) : (ReflectliteValue.parts (.agg #[.pointer (some ⟨8, 44, none⟩), .pointer (some a), .int .u64 386])).run Tryz.prog w = .ok (some (44, a, 386)) w := by kernel_rfl
theorem parts39 (a : Addr) (w : World) : (ReflectliteValue.parts (.agg #[.pointer (some ⟨8, 44, none⟩), .pointer (some a), .int .u64 130])).run Tryz.prog w = .ok (some (44, a, 130)) w := by kernel_rfl
theorem direct39 (w : World) : (Rtype.directlyAssignable 44 44).run Tryz.prog w = .ok true w := by kernel_rfl
theorem set39 (ta b : Addr) (e : Int) (old : Value) (W : World) (hb : W.cell? b = some (.int .i64 e)) (ht : W.cell? ta = some old) (hf : W.frozen? ta = false) :
    (ReflectliteValue.set #[.agg #[.pointer (some ⟨8, 44, none⟩), .pointer (some ta), .int .u64 386], .agg #[.pointer (some ⟨8, 44, none⟩), .pointer (some b), .int .u64 130]]).run Tryz.prog W
      = .ok (.tuple #[]) (W.setCell ta (.int .i64 e)) := by
  refine (congrArg (fun s : Sem Value => s.run Tryz.prog W) (show ReflectliteValue.set #[.agg #[.pointer (some ⟨8, 44, none⟩), .pointer (some ta), .int .u64 386], .agg #[.pointer (some ⟨8, 44, none⟩), .pointer (some b), .int .u64 130]] = (ReflectliteValue.parts (.agg #[.pointer (some ⟨8, 44, none⟩), .pointer (some ta), .int .u64 386]) >>= fun p => ReflectliteValue.parts (.agg #[.pointer (some ⟨8, 44, none⟩), .pointer (some b), .int .u64 130]) >>= fun q => _) from rfl)).trans ?_
  simp only [Sem.run_bind, parts39a, parts39, Result.andThen]
  simp [ReflectliteValue.flagAddr, loadVar, isAgg, underlying, Tryz.underlying44, hb, Result.andThen, direct39, storeVar, Value.cells, storeCells, Addr.add]
  rw [run_store Tryz.prog W ta _ _ (by rfl)]
  simp [ht, hf]


end asErr
end Go.Proofs.YtnoikdlofkcgaaaGreatDoor

namespace Go.Proofs.YtnoikdlofkcgaaaGreatDoor
open Go.RowKit

end Go.Proofs.YtnoikdlofkcgaaaGreatDoor

namespace Go.Proofs.YtnoikdlofkcgaaaGreatDoor
open Go.RowKit Go.Sort

theorem bcell {W w1 : World} (hb : Below W.heap.size W w1) : (∀ b o, b < W.heap.size → w1.cell? ⟨b, o, none⟩ = W.cell? ⟨b, o, none⟩) ∧ (∀ b o, b < W.heap.size → w1.frozen? ⟨b, o, none⟩ = W.frozen? ⟨b, o, none⟩) :=
  ⟨fun b o h => hb.cell (p := ⟨b, o, none⟩) h, fun b o h => hb.frozen (p := ⟨b, o, none⟩) h⟩

theorem one_box {w w1 : World} {c0 c1 : Value} (hb : Below (w.alloc (.cells #[c0, c1] 23)).heap.size (w.alloc (.cells #[c0, c1] 23)) w1) :
    w1.cell? ⟨w.heap.size, 0, none⟩ = some c0 ∧ w1.cell? ⟨w.heap.size, 1, none⟩ = some c1 ∧ Below w.heap.size w w1 ∧ w.heap.size < w1.heap.size := by
  obtain ⟨hc, _⟩ := bcell hb
  refine ⟨by rw [hc _ _ (by simp)]; simp, by rw [hc _ _ (by simp)]; simp, ((Below.refl _ _).alloc (Nat.le_refl _) _).trans (hb.mono (by simp)), ?_⟩
  have := hb.size
  simp at this
  omega

/-- A value's text is empty; its object is the root. -/
def teB (v : V) : Bool := v.t.toList.isEmpty
def roB (v : V) : Bool := decide (v.o = 0 ∧ v.a = 0)

/-- As bookref1 tells it. -/
def okR (v : V) : Bool :=
  if v.k = 0 then teB v && roB v && decide (v.n = 0)
  else if v.k = 1 then teB v && roB v && (decide (v.n = 0) || decide (v.n = 1))
  else if v.k = 2 ∨ v.k = 4 then teB v && roB v
  else if v.k = 3 then decide (v.n = 0) && roB v && decide ((v.t.size : Int) ≤ 60)
  else if v.k = 5 ∨ v.k = 6 then decide (v.n = 0) && teB v && idOkB v.o v.a
  else false

theorem okR_eq (v : V) : okB v = okR v := by
  obtain ⟨k, n, t, o, a⟩ := v
  have hb : (o == 0 && a == 0) = decide (o = 0 ∧ a = 0) := by
    by_cases h1 : o = 0 <;> by_cases h2 : a = 0 <;> simp [h1, h2]
  have hn : (n == 0) = decide (n = 0) := by by_cases h : n = 0 <;> simp [h]
  unfold okB okR usedB onlyV sameB teB roB
  dsimp only
  by_cases h0 : k = 0
  · subst h0
    simp [hb, hn, Bool.and_comm, Bool.and_left_comm]
  by_cases h1 : k = 1
  · subst h1
    simp [hb, Bool.and_comm, Bool.and_assoc]
  by_cases h2 : k = 2
  · subst h2
    simp [hb]
  by_cases h4 : k = 4
  · subst h4
    simp [hb]
  by_cases h3 : k = 3
  · subst h3
    simp [hb, hn, Bool.and_comm, Bool.and_assoc]
  by_cases h5 : k = 5
  · subst h5
    simp [hn, Bool.and_comm, Bool.and_assoc]
  by_cases h6 : k = 6
  · subst h6
    simp [hn, Bool.and_comm, Bool.and_assoc]
  simp [h0, h1, h2, h3, h4, h5, h6]

theorem five5 {w w1 : World} {c0 c1 c2 c3 c4 : Value} (hb : Below (w.alloc (.cells #[c0, c1, c2, c3, c4] 25)).heap.size (w.alloc (.cells #[c0, c1, c2, c3, c4] 25)) w1) :
    w1.cell? ⟨w.heap.size, 0, none⟩ = some c0 ∧ w1.cell? ⟨w.heap.size, 1, none⟩ = some c1 ∧ w1.cell? ⟨w.heap.size, 2, none⟩ = some c2 ∧ w1.cell? ⟨w.heap.size, 3, none⟩ = some c3 ∧ w1.cell? ⟨w.heap.size, 4, none⟩ = some c4 := by
  obtain ⟨hc, _⟩ := bcell hb
  refine ⟨?_, ?_, ?_, ?_, ?_⟩ <;> (rw [hc _ _ (by simp)]; simp)

theorem one_boxV {w w1 : World} {o : Obj} (hb : Below (w.alloc o).heap.size (w.alloc o) w1) : Below w.heap.size w w1 := ((Below.refl _ _).alloc (Nat.le_refl _) _).trans (hb.mono (by simp))

end Go.Proofs.YtnoikdlofkcgaaaGreatDoor

namespace Go.Proofs.YtnoikdlofkcgaaaGreatDoor
open Go.RowKit Go.Sort

/-- What is asked of each tree. -/
def nodeS (x : V) (ks : List ByteArray) (n : Nat) (s : Unit) : Bool × Unit := (nodeB x ks n, s)
/-- Is it a tree? -/
def formedB (T : JT) : Bool := (eachM nodeS T ()).1
/-- Are they all? -/
def formedsB (l : List JT) : Bool := (eachsM nodeS l ()).1
theorem formedB_node (x : V) (ks : List ByteArray) (ts : List JT) : formedB (.node x ks ts) = (nodeB x ks ts.length && formedsB ts) := by
  unfold formedB formedsB
  rw [eachM_node]
  cases h : nodeB x ks ts.length <;> simp [nodeS, h]
theorem formedB_eq (T : JT) : formedB T = (nodeB T.x T.ks T.ts.length && formedsB T.ts) := by
  unfold formedB formedsB
  rw [eachM_eq]
  cases h : nodeB T.x T.ks T.ts.length <;> simp [nodeS, h]
theorem formedsB_cons (t : JT) (r : List JT) : formedsB (t :: r) = (formedB t && formedsB r) := by
  unfold formedB formedsB
  rw [eachsM_cons]
  cases h : (eachM nodeS t ()).1 <;> simp
theorem formedsB_nil : formedsB [] = true := by unfold formedsB; rw [eachsM]

theorem okB_range (x : V) (h : okB x = true) : 0 ≤ x.k ∧ x.k ≤ 6 := by
  have hu : usedB x = true := by
    unfold okB at h
    exact (Bool.and_eq_true _ _ ▸ h).1
  unfold usedB at hu
  by_cases h0 : x.k = 0 ∨ x.k = 2 ∨ x.k = 4
  · omega
  · rw [if_neg h0] at hu
    by_cases h1 : x.k = 1
    · omega
    · rw [if_neg h1] at hu
      by_cases h3 : x.k = 3
      · omega
      · rw [if_neg h3] at hu
        by_cases h5 : x.k = 5 ∨ x.k = 6
        · omega
        · rw [if_neg h5] at hu; cases hu

theorem IsStrs.cells {w w' : World} {a : Option Addr} {n cap : Nat} {l : List ByteArray} (h : IsStrs w (.slice a n cap) l) (hb : Below w.heap.size w w') (hl : l ≠ []) :
    ∃ b off, a = some ⟨b, off, none⟩ ∧ b < w.heap.size ∧ ∀ i (h : i < l.length), w'.cell? ⟨b, off + i, none⟩ = some (.string l[i]) := by
  obtain ⟨a', cap', e, _, _, h3⟩ := h
  obtain ⟨b, off, e2, h4, h5⟩ := h3 hl
  simp only [Value.slice.injEq] at e
  refine ⟨b, off, e.1.trans e2, h4, fun i hi => ?_⟩
  rw [hb.cell (p := ⟨b, off + i, none⟩) h4]; exact h5 i hi

/-- The key that stands ahead of an index. -/
def prevK (ks : List ByteArray) (j : Nat) : List UInt8 := if j = 0 then [] else (ks[j - 1]?.getD (ByteArray.mk #[])).toList
theorem empty_lt (s : ByteArray) : (decide (([] : List UInt8) < s.toList)) = !s.toList.isEmpty := by
  cases s.toList with
  | nil => rfl
  | cons a r => simp

end Go.Proofs.YtnoikdlofkcgaaaGreatDoor
