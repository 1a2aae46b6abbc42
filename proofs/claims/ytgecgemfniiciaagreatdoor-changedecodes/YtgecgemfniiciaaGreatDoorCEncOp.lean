/-
  What is proved: an op, written by package change's putOp.
  Conditions: the op lies in memory, and its numbers and texts are not too great.
-/
import Derived.Test.YtgecgemfniiciaaGreatDoorCEnc
import Derived.Test.YtgecgemfniiciaaGreatDoorCCheck3
namespace Go.Proofs.YtgecgemfniiciaaGreatDoor
open Go.RowKit

/-- A number that is not below 0. -/
def N63 (n : Int) : Prop := 0 ≤ n ∧ n < 9223372036854775808

/-- An op whose numbers and texts are not too great. -/
structure OpFit (o : OpM) : Prop where
  kind : N63 o.kind
  obj : N63 o.obj.1 ∧ N63 o.obj.2
  key : o.key.size ≤ 20
  elem : N63 o.elem.1 ∧ N63 o.elem.2
  vk : N63 o.val.k
  vn : I64 o.val.n
  vt : o.val.t.size ≤ 60
  vo : o.val.o = 0 ∧ o.val.a = 0
  preds : o.preds.length ≤ 12 ∧ ∀ q ∈ o.preds, N63 q.1 ∧ N63 q.2

/-- The bytes of pairs. -/
def encP (l : List Pr) : List UInt8 := l.flatMap fun q => encN [q.1, q.2]
/-- The bytes of a text. -/
def encT (t : ByteArray) : List UInt8 := encN [(t.size : Int)] ++ t.data.toList
/-- The bytes of a flag. -/
def encB (b : Bool) : List UInt8 := encN [if b then 1 else 0]
/-- The bytes of a value. -/
def encV (v : V) : List UInt8 := encN [v.k] ++ put (zig v.n) ++ encT v.t
/-- The bytes of an op. -/
def encOp (o : OpM) : List UInt8 := encN [o.kind, o.obj.1, o.obj.2] ++ encT o.key ++ encN [o.elem.1, o.elem.2] ++ encB o.ins ++ encV o.val ++ encN [(o.preds.length : Int)] ++ encP o.preds

theorem encP_append (l m : List Pr) : encP (l ++ m) = encP l ++ encP m := by simp [encP]
theorem encP_len (l : List Pr) (h : ∀ q ∈ l, N63 q.1 ∧ N63 q.2) : (encP l).length ≤ 20 * l.length := by
  induction l with
  | nil => simp [encP]
  | cons q r ih =>
    have e : encP (q :: r) = encN [q.1, q.2] ++ encP r := by simp [encP]
    have h1 := h q (by simp)
    have h2 := ih (fun x hx => h x (by simp [hx]))
    have h3 := encN_len [q.1, q.2] (by intro n hn; simp at hn; rcases hn with rfl | rfl; exact h1.1; exact h1.2)
    rw [e, List.length_append, List.length_cons]
    simp at h3
    omega
theorem encT_len (t : ByteArray) (h : t.size ≤ 60) : (encT t).length ≤ 70 := by
  unfold encT
  have h3 := encN_len [(t.size : Int)] (by intro n hn; simp at hn; subst hn; omega)
  have e : t.data.toList.length = t.size := by rw [Array.length_toList]; rfl
  rw [List.length_append]
  simp only [List.length_cons, List.length_nil] at h3
  omega
theorem encB_len (b : Bool) : (encB b).length ≤ 10 := by
  unfold encB
  have := encN_len [if b then (1 : Int) else 0] (by intro n hn; simp at hn; subst hn; cases b <;> simp)
  simpa using this
theorem encV_len (v : V) (h1 : N63 v.k) (h2 : I64 v.n) (h3 : v.t.size ≤ 60) : (encV v).length ≤ 90 := by
  unfold encV
  have h4 := encN_len [v.k] (by intro n hn; simp at hn; subst hn; exact h1)
  have h5 := put_len10 (zig_lt h2.1 h2.2)
  have h6 := encT_len v.t h3
  rw [List.length_append, List.length_append]
  simp only [List.length_cons, List.length_nil] at h4
  omega
theorem encOp_len (o : OpM) (h : OpFit o) : (encOp o).length ≤ 500 := by
  unfold encOp
  have h1 := encN_len [o.kind, o.obj.1, o.obj.2] (by intro n hn; simp at hn; rcases hn with rfl | rfl | rfl; exact h.kind; exact h.obj.1; exact h.obj.2)
  have h2 := encT_len o.key (by have := h.key; omega)
  have h3 := encN_len [o.elem.1, o.elem.2] (by intro n hn; simp at hn; rcases hn with rfl | rfl; exact h.elem.1; exact h.elem.2)
  have h4 := encB_len o.ins
  have h5 := encV_len o.val h.vk h.vn h.vt
  have h6 := encN_len [(o.preds.length : Int)] (by intro n hn; simp at hn; subst hn; have := h.preds.1; omega)
  have h7 := encP_len o.preds h.preds.2
  have h8 := h.preds.1
  simp only [List.length_append, List.length_cons, List.length_nil] at *
  omega

end Go.Proofs.YtgecgemfniiciaaGreatDoor
