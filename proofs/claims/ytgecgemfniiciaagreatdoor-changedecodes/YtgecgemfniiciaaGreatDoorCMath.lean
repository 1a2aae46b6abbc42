/-
  What is proved: the mathematics of a change as bytes: how one is read, number by number.
  Conditions: as each theorem says.
-/
import Derived.Test.YtgecgemfniiciaaGreatDoorCOwn
import Derived.Test.YtgecgemfniiciaaGreatDoorOrderA
namespace Go.Proofs.YtgecgemfniiciaaGreatDoor
open Go.RowKit

/-- What is still to be read; none: something was none. -/
abbrev St : Type := Option (List UInt8)

/-- The bytes that are still there. -/
def rest (s : St) : List UInt8 := s.getD []

/-- A number, read. -/
def rNum (s : St) : Int × St :=
  match get (rest s) with
  | some (n, k) => (wrap64 (n : Int), some ((rest s).drop k))
  | none => (0, none)

/-- A number that may be below 0, read. -/
def rSig (s : St) : Int × St :=
  match get (rest s) with
  | some (n, k) => (zag n, some ((rest s).drop k))
  | none => (0, none)

/-- How many there are, at most so many. -/
def rCnt (most : Int) (s : St) : Int × St := if (rNum s).1 < 0 ∨ most < (rNum s).1 then (0, none) else rNum s

/-- A text of at most so many bytes. -/
def rTxt (most : Int) (s : St) : List UInt8 × St :=
  if ((rest (rCnt most s).2).length : Int) < (rCnt most s).1 then ([], none) else ((rest (rCnt most s).2).take (rCnt most s).1.toNat, (rCnt most s).2.map fun l => l.drop (rCnt most s).1.toNat)

/-- Two numbers. -/
def rId (s : St) : Pr × St := (((rNum s).1, (rNum (rNum s).2).1), (rNum (rNum s).2).2)

/-- So many of a kind. -/
def rMany {α : Type} (f : St → α × St) : Nat → St → List α × St
  | 0, s => ([], s)
  | n + 1, s => ((rMany f n s).1 ++ [(f (rMany f n s).2).1], (f (rMany f n s).2).2)

/-- Pairs, at most so many. -/
def rPairs (most : Int) (s : St) : List Pr × St := rMany rId (rCnt most s).1.toNat (rCnt most s).2

/-- A text as the program has it. -/
def asText (l : List UInt8) : ByteArray := ⟨l.toArray⟩

/-- A value. -/
def rVal (s : St) : V × St := (⟨(rNum s).1, (rSig (rNum s).2).1, asText (rTxt 60 (rSig (rNum s).2).2).1, 0, 0⟩, (rTxt 60 (rSig (rNum s).2).2).2)

/-- An op. -/
structure OpM where
  kind : Int
  obj : Pr
  key : ByteArray
  elem : Pr
  ins : Bool
  val : V
  preds : List Pr

/-- An op, read. -/
def rOp (s : St) : OpM × St :=
  let s1 := (rNum s).2
  let s2 := (rId s1).2
  let s3 := (rTxt 20 s2).2
  let s4 := (rId s3).2
  let s5 := (rCnt 1 s4).2
  let s6 := (rVal s5).2
  (⟨(rNum s).1, (rId s1).1, asText (rTxt 20 s2).1, (rId s3).1, (rCnt 1 s4).1 == 1, (rVal s5).1, (rPairs 12 s6).1⟩, (rPairs 12 s6).2)

/-- A change. -/
structure Chg where
  actor : Int
  seq : Int
  start : Int
  deps : List Pr
  ops : List OpM

/-- Ops, read. -/
def rOps (s : St) : List OpM × St := rMany rOp (rCnt 40 s).1.toNat (rCnt 40 s).2

/-- A change, read. -/
def rChg (s : St) : Chg × St :=
  let s1 := (rNum s).2
  let s2 := (rNum s1).2
  let s3 := (rNum s2).2
  let s4 := (rPairs 12 s3).2
  (⟨(rNum s).1, (rNum s1).1, (rNum s2).1, (rPairs 12 s3).1, (rOps s4).1⟩, (rOps s4).2)

theorem rest_none : rest none = [] := rfl
theorem rest_some (l : List UInt8) : rest (some l) = l := rfl
theorem rNum_none : rNum none = (0, none) := rfl
theorem rSig_none : rSig none = (0, none) := rfl

theorem rNum_range (s : St) : I64 (rNum s).1 := by
  unfold rNum
  split
  · exact i64_wrap _
  · unfold I64; simp

theorem rSig_range (s : St) : I64 (rSig s).1 := by
  unfold rSig
  split
  · rename_i h
    exact zag_range (get_some h).2.1
  · unfold I64; simp

theorem rCnt_range (most : Int) (h : 0 ≤ most) (s : St) : 0 ≤ (rCnt most s).1 ∧ (rCnt most s).1 ≤ most := by
  unfold rCnt
  split
  · exact ⟨Int.le_refl _, h⟩
  · rename_i h
    omega

theorem rId_range (s : St) : I64 (rId s).1.1 ∧ I64 (rId s).1.2 := ⟨rNum_range _, rNum_range _⟩

theorem rMany_len {α : Type} (f : St → α × St) (n : Nat) (s : St) : (rMany f n s).1.length = n := by
  induction n with
  | zero => rfl
  | succ n ih => simp [rMany, ih]

theorem rMany_all {α : Type} {P : α → Prop} (f : St → α × St) (h : ∀ s, P (f s).1) (n : Nat) (s : St) : ∀ x ∈ (rMany f n s).1, P x := by
  induction n with
  | zero => simp [rMany]
  | succ n ih =>
    intro x hx
    rw [rMany] at hx
    rcases List.mem_append.1 hx with h1 | h1
    · exact ih x h1
    · rw [List.mem_singleton.1 h1]; exact h _

theorem rPairs_len (most : Int) (h : 0 ≤ most) (s : St) : ((rPairs most s).1.length : Int) ≤ most := by
  unfold rPairs
  rw [rMany_len]
  have := rCnt_range most h s
  omega

theorem rPairs_range (most : Int) (s : St) : ∀ q ∈ (rPairs most s).1, I64 q.1 ∧ I64 q.2 := rMany_all rId rId_range _ _

theorem rTxt_len (most : Int) (h : 0 ≤ most) (s : St) : ((rTxt most s).1.length : Int) ≤ most := by
  have := rCnt_range most h s
  unfold rTxt
  split
  · exact h
  · rw [List.length_take]; omega
end Go.Proofs.YtgecgemfniiciaaGreatDoor
