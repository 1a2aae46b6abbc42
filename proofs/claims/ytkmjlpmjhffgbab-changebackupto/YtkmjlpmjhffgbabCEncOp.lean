/-
  What is proved: an op, written by package change's putOp.
  Conditions: the op lies in memory, and its numbers and texts are not too great.
-/
import Derived.Test.YtkmjlpmjhffgbabCEnc
import Derived.Test.YtkmjlpmjhffgbabCCheck3
namespace Go.Proofs.Ytkmjlpmjhffgbab
open Go.RowKit

/-- A number that is not below 0. -/
def N63 (n : Int) : Prop := 0 ≤ n ∧ n < 9223372036854775808

/-- An op whose numbers and texts are not too great. -/
structure OpFit (o : OpM) : Prop where
  kind : N63 o.kind
  obj : N63 o.obj.1 ∧ N63 o.obj.2
  key : o.key.size ≤ 20
  elem : N63 o.elem.1 ∧ N63 o.elem.2
  vk : N63 o.val.k
  vn : I64 o.val.n
  vt : o.val.t.size ≤ 60
  vo : o.val.o = 0 ∧ o.val.a = 0
  preds : o.preds.length ≤ 12 ∧ ∀ q ∈ o.preds, N63 q.1 ∧ N63 q.2

/-- The bytes of pairs. -/
def encP (l : List Pr) : List UInt8 := l.flatMap fun q => encN [q.1, q.2]
/-- The bytes of a text. -/
def encT (t : ByteArray) : List UInt8 := encN [(t.size : Int)] ++ t.data.toList
/-- The bytes of a flag. -/
def encB (b : Bool) : List UInt8 := encN [if b then 1 else 0]
/-- The bytes of a value. -/
def encV (v : V) : List UInt8 := encN [v.k] ++ put (zig v.n) ++ encT v.t
/-- The bytes of an op. -/
def encOp (o : OpM) : List UInt8 := encN [o.kind, o.obj.1, o.obj.2] ++ encT o.key ++ encN [o.elem.1, o.elem.2] ++ encB o.ins ++ encV o.val ++ encN [(o.preds.length : Int)] ++ encP o.preds

theorem encP_append (l m : List Pr) : encP (l ++ m) = encP l ++ encP m := by simp [encP]
theorem encP_len (l : List Pr) (h : ∀ q ∈ l, N63 q.1 ∧ N63 q.2) : (encP l).length ≤ 20 * l.length := by
  induction l with
  | nil => simp [encP]
  | cons q r ih =>
    have e : encP (q :: r) = encN [q.1, q.2] ++ encP r := by simp [encP]
    have h1 := h q (by simp)
    have h2 := ih (fun x hx => h x (by simp [hx]))
    have h3 := encN_len [q.1, q.2] (by intro n hn; simp at hn; rcases hn with rfl | rfl; exact h1.1; exact h1.2)
    rw [e, List.length_append, List.length_cons]
    simp at h3
    omega
theorem encT_len (t : ByteArray) (h : t.size ≤ 60) : (encT t).length ≤ 70 := by
  unfold encT
  have h3 := encN_len [(t.size : Int)] (by intro n hn; simp at hn; subst hn; omega)
  have e : t.data.toList.length = t.size := by rw [Array.length_toList]; rfl
  rw [List.length_append]
  simp only [List.length_cons, List.length_nil] at h3
  omega
theorem encB_len (b : Bool) : (encB b).length ≤ 10 := by
  unfold encB
  have := encN_len [if b then (1 : Int) else 0] (by intro n hn; simp at hn; subst hn; cases b <;> simp)
  simpa using this
theorem encV_len (v : V) (h1 : N63 v.k) (h2 : I64 v.n) (h3 : v.t.size ≤ 60) : (encV v).length ≤ 90 := by
  unfold encV
  have h4 := encN_len [v.k] (by intro n hn; simp at hn; subst hn; exact h1)
  have h5 := put_len10 (zig_lt h2.1 h2.2)
  have h6 := encT_len v.t h3
  rw [List.length_append, List.length_append]
  simp only [List.length_cons, List.length_nil] at h4
  omega
theorem encOp_len (o : OpM) (h : OpFit o) : (encOp o).length ≤ 500 := by
  unfold encOp
  have h1 := encN_len [o.kind, o.obj.1, o.obj.2] (by intro n hn; simp at hn; rcases hn with rfl | rfl | rfl; exact h.kind; exact h.obj.1; exact h.obj.2)
  have h2 := encT_len o.key (by have := h.key; omega)
  have h3 := encN_len [o.elem.1, o.elem.2] (by intro n hn; simp at hn; rcases hn with rfl | rfl; exact h.elem.1; exact h.elem.2)
  have h4 := encB_len o.ins
  have h5 := encV_len o.val h.vk h.vn h.vt
  have h6 := encN_len [(o.preds.length : Int)] (by intro n hn; simp at hn; subst hn; have := h.preds.1; omega)
  have h7 := encP_len o.preds h.preds.2
  have h8 := h.preds.1
  simp only [List.length_append, List.length_cons, List.length_nil] at *
  omega

set_option maxHeartbeats 2000000 in
theorem putText_any (B : Nat) (v : Value) (L : List UInt8) (t : ByteArray) (w : World) (hrow : Row B v L w) (hB : B ≤ w.heap.size) (ht : t.size ≤ 60) (hL : L.length ≤ 800000) :
    Calls Try.prog 15 #[v, .string t] w fun e w' => ∃ u, e = .returned u ∧ Row B u (L ++ encT t) w' ∧ Gr B w w' := by
  obtain ⟨a, c, rfl⟩ := own_row_len hrow
  have P := cput_new B _ L [(t.size : Int)] w hrow hB (by intro n hn; simp at hn; subst hn; omega) (by omega) (by simp)
  have hl := encN_len [(t.size : Int)] (by intro n hn; simp at hn; subst hn; omega)
  simp only [List.length_cons, List.length_nil] at hl
  have HE : Hid (L ++ encT t = (L ++ encN [(t.size : Int)]) ++ t.data.toList) := by show _ = _; unfold encT; rw [List.append_assoc]
  go_enter Try.func15, Try.ntmps15
  go_wp2_with fail
  refine P.mono ?_
  rintro e w1 ⟨u1, rfl, R1, G1⟩
  have hz := G1.bel.size
  have hQ : (L ++ encN [(t.size : Int)]).length ≤ 800010 := by rw [List.length_append]; omega
  generalize L ++ encN [(t.size : Int)] = Q at *
  go_wp2_with (first | (at_builtin; refine app_text rfl _ _ rfl B _ Q rfl R1 t rfl (by omega) (Nat.le_trans hB hz) ?_))
  intro u2 w2 R2 G2
  go_wp2
  go_ret
  exact ⟨_, rfl, by rw [HE.out]; exact R2, G1.trans G2⟩

set_option maxHeartbeats 2000000 in
theorem putFlag_any (B : Nat) (v : Value) (L : List UInt8) (b : Bool) (w : World) (hrow : Row B v L w) (hB : B ≤ w.heap.size) (hL : L.length ≤ 800000) :
    Calls Try.prog 16 #[v, .bool b] w fun e w' => ∃ u, e = .returned u ∧ Row B u (L ++ encB b) w' ∧ Gr B w w' := by
  obtain ⟨a, c, rfl⟩ := own_row_len hrow
  cases b with
  | true =>
    have P := cput_new B _ L [1] w hrow hB (by intro n hn; simp at hn; subst hn; omega) (by omega) (by simp)
    go_enter Try.func16, Try.ntmps16
    go_wp2_with fail
    refine P.mono ?_
    rintro e w1 ⟨u1, rfl, R1, G1⟩
    go_wp2
    go_ret
    exact ⟨_, rfl, R1, G1⟩
  | false =>
    have P := cput_new B _ L [0] w hrow hB (by intro n hn; simp at hn; subst hn; omega) (by omega) (by simp)
    go_enter Try.func16, Try.ntmps16
    go_wp2_with fail
    refine P.mono ?_
    rintro e w1 ⟨u1, rfl, R1, G1⟩
    go_wp2
    go_ret
    exact ⟨_, rfl, R1, G1⟩

set_option maxRecDepth 100000 in
set_option maxHeartbeats 4000000 in
theorem putValue_any (B : Nat) (v : Value) (L : List UInt8) (x : V) (w : World) (hrow : Row B v L w) (hB : B ≤ w.heap.size) (h1 : N63 x.k) (h2 : I64 x.n) (h3 : x.t.size ≤ 60) (hL : L.length ≤ 700000) :
    Calls Try.prog 17 #[v, x.val] w fun e w' => ∃ u, e = .returned u ∧ Row B u (L ++ encV x) w' ∧ Gr B w w' := by
  obtain ⟨a, c, rfl⟩ := own_row_len hrow
  obtain ⟨xk, xn, xt, xo, xa⟩ := x
  unfold V.val
  dsimp only at h1 h2 h3 ⊢
  have HE : Hid (L ++ encV ⟨xk, xn, xt, xo, xa⟩ = ((L ++ encN [xk]) ++ put (zig xn)) ++ encT xt) := by show _ = _; unfold encV; simp
  have hbx : (w.alloc (.cells #[.int .i64 xk, .int .i64 xn, .string xt, .int .i64 xo, .int .i64 xa] 30)).heap[w.heap.size]? = some (.cells #[.int .i64 xk, .int .i64 xn, .string xt, .int .i64 xo, .int .i64 xa] 30) := (MapKept.heap_alloc w _).1
  have G0 := Gr.alloc B w (.cells #[.int .i64 xk, .int .i64 xn, .string xt, .int .i64 xo, .int .i64 xa] 30) hB
  have P := cput_new B _ L [xk] _ (hrow.alloc (.cells #[.int .i64 xk, .int .i64 xn, .string xt, .int .i64 xo, .int .i64 xa] 30)) (Nat.le_trans hB G0.bel.size) (by intro n hn; simp at hn; subst hn; exact h1) (by omega) (by simp)
  have hz0 : (w.alloc (.cells #[.int .i64 xk, .int .i64 xn, .string xt, .int .i64 xo, .int .i64 xa] 30)).heap.size = w.heap.size + 1 := by simp
  rw [hz0] at P
  have hl := encN_len [xk] (by intro n hn; simp at hn; subst hn; exact h1)
  simp only [List.length_cons, List.length_nil] at hl
  have hl2 := put_len10 (zig_lt h2.1 h2.2)
  go_enter Try.func17, Try.ntmps17
  go_wp2_with fail
  refine P.mono ?_
  rintro e w1 ⟨u1, rfl, R1, G1⟩
  have GA := G0.trans G1
  have hz := GA.bel.size
  have hb1 := G1.keep _ _ _ (by decide) hbx
  have c1 : w1.cell? ⟨w.heap.size, 1, none⟩ = some (.int .i64 xn) := Lib.cell_of_heap hb1 1
  have hQ : (L ++ encN [xk]).length ≤ 700010 := by rw [List.length_append]; omega
  generalize L ++ encN [xk] = Q at *
  clear P hbx G0 G1 hrow
  go_wp2_with fail
  refine (putSigned_any xn w1 h2.1 h2.2).mono ?_
  rintro e w2 ⟨u2, rfl, R2, b2⟩
  have G2 := GA.trans (Gr.of b2 (Nat.le_trans hB hz))
  have H2 : Row B _ Q w2 := own_below R1 b2 (Nat.le_refl _)
  have hz2 := G2.bel.size
  have hb2 := heap_below hb1 b2 (Nat.le_refl _)
  clear c1 R1 b2 GA
  go_wp2_with (first | (at_builtin; refine app_row rfl _ _ rfl B _ Q rfl H2 _ _ (put (zig xn)) rfl R2 (put_ne _) (by omega) (Nat.le_trans hB hz2) ?_))
  intro u3 w3 R3 G3
  have hb3 := G3.keep _ _ _ (by decide) hb2
  have c2 : w3.cell? ⟨w.heap.size, 2, none⟩ = some (.string xt) := Lib.cell_of_heap hb3 2
  have G4 := G2.trans G3
  have hz4 := G4.bel.size
  have hQ2 : (Q ++ put (zig xn)).length ≤ 700020 := by rw [List.length_append]; omega
  generalize Q ++ put (zig xn) = Q2 at *
  clear G2 G3 R2 H2 hb1 hb2
  go_wp2_with fail
  refine (putText_any B u3 Q2 xt w3 R3 (Nat.le_trans hB hz4) h3 (by omega)).mono ?_
  rintro e w5 ⟨u5, rfl, R5, G5⟩
  go_wp2
  go_ret
  exact ⟨_, rfl, by rw [HE.out]; exact R5, G4.trans G5⟩
end Go.Proofs.Ytkmjlpmjhffgbab
