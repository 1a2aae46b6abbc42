/-
  What is proved: the function each of package json, called with a tree that lies in memory and a function whose answers are known, goes through the tree's trees from the outside in, up to the first that is not as asked.
  Conditions: the tree lies in memory; what the function turns lies behind it.
-/
import Derived.Test.YtnoikdlofkcgaaaGreatDoorG02
namespace Go.Proofs.YtnoikdlofkcgaaaGreatDoor
open Go.RowKit

/-- All but some blocks is as it was. -/
structure Kp (S : List Nat) (w w' : World) : Prop where
  os : w'.os = w.os
  tape : w'.tape = w.tape
  output : w'.output = w.output
  size : w.heap.size ≤ w'.heap.size
  block : ∀ k, k < w.heap.size → k ∉ S → w'.heap[k]? = w.heap[k]?

theorem Kp.refl (S : List Nat) (w : World) : Kp S w w := ⟨rfl, rfl, rfl, Nat.le_refl _, fun _ _ _ => rfl⟩
theorem Kp.trans {S : List Nat} {w w1 w2 : World} (h : Kp S w w1) (k : Kp S w1 w2) : Kp S w w2 :=
  ⟨k.os.trans h.os, k.tape.trans h.tape, k.output.trans h.output, Nat.le_trans h.size k.size, fun b hb hS => (k.block b (Nat.lt_of_lt_of_le hb h.size) hS).trans (h.block b hb hS)⟩
theorem Kp.mono {S R : List Nat} {w w' : World} (h : Kp S w w') (hS : ∀ b ∈ S, b ∈ R) : Kp R w w' :=
  ⟨h.os, h.tape, h.output, h.size, fun b hb hR => h.block b hb (fun e => hR (hS b e))⟩
theorem Kp.of {S : List Nat} {w w' : World} (h : Below w.heap.size w w') : Kp S w w' := ⟨h.os, h.tape, h.output, h.size, fun k hk _ => h.block k hk⟩
theorem Kp.below {S : List Nat} {B : Nat} {w w' : World} (h : Kp S w w') (hB : ∀ b ∈ S, B ≤ b) (hz : B ≤ w.heap.size) : Below B w w' :=
  ⟨h.os, h.tape, h.output, h.size, fun k hk => h.block k (by omega) (fun e => by have := hB k e; omega)⟩
theorem Kp.heap {S : List Nat} {w w' : World} {b : Nat} {o : Obj} (h : Kp S w w') (hb : w.heap[b]? = some o) (hS : b ∉ S) : w'.heap[b]? = some o := by
  rw [h.block b (lt_of_heap hb) hS]; exact hb
theorem Kp.alloc (S : List Nat) (w : World) (o : Obj) : Kp S w (w.alloc o) := Kp.of ((Below.refl _ w).alloc (Nat.le_refl _) o)

theorem IsTG.parts {w : World} {u : TV} {T : JT} (h : IsT w (tval u) T) : ∃ x a1 n1 c1 a2 n2 c2, u = (x, .slice a1 n1 c1, .slice a2 n2 c2) := by
  obtain ⟨_, uk, a, cap, us, e, hk, _⟩ := h.inv
  obtain ⟨a1, c1, rfl, _⟩ := hk
  exact ⟨T.x, _, _, _, _, _, _, tval_inj e⟩

/-- Trees gone through one after the other, from the outside in, with a state. -/
def eachF {σ : Type} (stp : V → List ByteArray → Nat → σ → Bool × σ) : JF → σ → Bool × σ
  | .nil, s => (true, s)
  | .node _ _ x l r, s => if (stp x.1 x.2 (toL l).length s).1 = true then (if (eachF stp l (stp x.1 x.2 (toL l).length s).2).1 = true then eachF stp r (eachF stp l (stp x.1 x.2 (toL l).length s).2).2 else (false, (eachF stp l (stp x.1 x.2 (toL l).length s).2).2)) else (false, (stp x.1 x.2 (toL l).length s).2)
/-- A tree gone through from the outside in, with a state. -/
def eachM {σ : Type} (stp : V → List ByteArray → Nat → σ → Bool × σ) (T : JT) (s : σ) : Bool × σ :=
  if (stp T.x T.ks T.ts.length s).1 = true then eachF stp T.kids (stp T.x T.ks T.ts.length s).2 else (false, (stp T.x T.ks T.ts.length s).2)
/-- Several, one after the other. -/
def eachsM {σ : Type} (stp : V → List ByteArray → Nat → σ → Bool × σ) : List JT → σ → Bool × σ
  | [], s => (true, s)
  | t :: r, s => if (eachM stp t s).1 = true then eachsM stp r (eachM stp t s).2 else (false, (eachM stp t s).2)
theorem eachsM_cons {σ : Type} (stp : V → List ByteArray → Nat → σ → Bool × σ) (t : JT) (r : List JT) (s : σ) : eachsM stp (t :: r) s = if (eachM stp t s).1 = true then eachsM stp r (eachM stp t s).2 else (false, (eachM stp t s).2) := by
  rw [eachsM]
theorem eachsM_toL {σ : Type} (stp : V → List ByteArray → Nat → σ → Bool × σ) (f : JF) (s : σ) : eachsM stp (toL f) s = eachF stp f s := by
  induction f generalizing s with
  | nil => rw [toL, eachsM, eachF]
  | node b o x l r _ ihr =>
    rw [toL, eachsM_cons, eachF, ihr]
    have e : eachM stp ⟨x, l⟩ s = if (stp x.1 x.2 (toL l).length s).1 = true then eachF stp l (stp x.1 x.2 (toL l).length s).2 else (false, (stp x.1 x.2 (toL l).length s).2) := rfl
    rw [e]
    by_cases h : (stp x.1 x.2 (toL l).length s).1 = true
    · rw [if_pos h, if_pos h]
    · rw [if_neg h, if_neg h, if_neg (by simp)]
theorem eachM_eq {σ : Type} (stp : V → List ByteArray → Nat → σ → Bool × σ) (T : JT) (s : σ) : eachM stp T s = if (stp T.x T.ks T.ts.length s).1 = true then eachsM stp T.ts (stp T.x T.ks T.ts.length s).2 else (false, (stp T.x T.ks T.ts.length s).2) := by
  rw [eachM, JT.ts, eachsM_toL]
theorem eachM_node {σ : Type} (stp : V → List ByteArray → Nat → σ → Bool × σ) (x : V) (ks : List ByteArray) (ts : List JT) (s : σ) : eachM stp (.node x ks ts) s = if (stp x ks ts.length s).1 = true then eachsM stp ts (stp x ks ts.length s).2 else (false, (stp x ks ts.length s).2) := by
  rw [eachM_eq, node_ts]; rfl

set_option maxRecDepth 100000 in
set_option maxHeartbeats 8000000 in
theorem each_one {σ : Type} (stp : V → List ByteArray → Nat → σ → Bool × σ) (R : σ → World → Prop) (S : List Nat) (f : FuncId) (c0 : Value) (eg : ∀ args w, (callFunc f args).run Tryz.prog w = .ok (.enter f args) w)
    (hR : ∀ s w w', R s w → Below w.heap.size w w' → R s w') {w0 : World} (hS : ∀ b ∈ S, w0.heap.size ≤ b)
    (hf : ∀ (x : V) (ks : List ByteArray) (n cap : Nat) (a : Option Addr) (uk : Value) (w : World) (s : σ), IsStrs w uk ks → n ≤ 8796093022208 → R s w → Below w0.heap.size w0 w → Calls Tryz.prog f #[tval (x, uk, .slice a n cap), c0] w fun e w' => e = .returned (.bool (stp x ks n s).1) ∧ R (stp x ks n s).2 w' ∧ Kp S w w')
    {v : Value} {T : JT} (h : IsT w0 v T) : ∀ (w : World) (s : σ), R s w → Below w0.heap.size w0 w → (∀ b ∈ S, b < w.heap.size) →
    Calls Tryz.prog 29 #[v, .func (Fn.func f) #[] #[c0]] w fun e w' => e = .returned (.bool (eachM stp T s).1) ∧ R (eachM stp T s).2 w' ∧ Kp S w w' := by
  have HF : Hid (∀ (x : V) (ks : List ByteArray) (n cap : Nat) (a : Option Addr) (uk : Value) (w : World) (s : σ), IsStrs w uk ks → n ≤ 8796093022208 → R s w → Below w0.heap.size w0 w → Calls Tryz.prog f #[tval (x, uk, .slice a n cap), c0] w fun e w' => e = .returned (.bool (stp x ks n s).1) ∧ R (stp x ks n s).2 w' ∧ Kp S w w') := hf
  have HRR : Hid (∀ s w w', R s w → Below w.heap.size w w' → R s w') := hR
  have HSS : Hid (∀ b ∈ S, w0.heap.size ≤ b) := hS
  clear hf hR hS
  induction h using IsTG.ind with
  | mk x ks ts uk a cap us hk hl hc hz hr hi ih =>
    intro w s hs hb hSw
    have HI : Hid (∀ i (h : i < us.length) (h' : i < ts.length) (w : World) (s : σ), R s w → Below w0.heap.size w0 w → (∀ b ∈ S, b < w.heap.size) → Calls Tryz.prog 29 #[tval us[i], .func (Fn.func f) #[] #[c0]] w fun e w' => e = .returned (.bool (eachM stp ts[i] s).1) ∧ R (eachM stp ts[i] s).2 w' ∧ Kp S w w') := ih
    have HR : Hid (RowT w0 a us) := hr
    have HT : Hid (∀ i (h : i < us.length) (h' : i < ts.length), IsT w0 (tval us[i]) ts[i]) := hi
    have HL : Hid (us.length = ts.length ∧ ts.length ≤ cap ∧ ts.length ≤ 8796093022208) := ⟨hl, hc.1, hz⟩
    have HB : Hid (Below w0.heap.size w0 w) := hb
    have HSW : Hid (∀ b ∈ S, b < w.heap.size) := hSw
    have h0 := (Below.refl w.heap.size w).alloc (Nat.le_refl _) (.cells #[.int .i64 x.k, .int .i64 x.n, .string x.t, .int .i64 x.o, .int .i64 x.a, uk, .slice a ts.length cap] 29)
    have hB0 := hb.trans (h0.mono hb.size)
    have E := HF.out x ks ts.length cap a uk (w.alloc (.cells #[.int .i64 x.k, .int .i64 x.n, .string x.t, .int .i64 x.o, .int .i64 x.a, uk, .slice a ts.length cap] 29)) s (hk.below hB0) hz (HRR.out _ _ _ hs h0) hB0
    have HX : Hid ((w.alloc (.cells #[.int .i64 x.k, .int .i64 x.n, .string x.t, .int .i64 x.o, .int .i64 x.a, uk, .slice a ts.length cap] 29)).heap[w.heap.size]? = some _) := (MapKept.heap_alloc w _).1
    have HM : Hid (eachM stp (.node x ks ts) s = if (stp x ks ts.length s).1 = true then eachsM stp ts (stp x ks ts.length s).2 else (false, (stp x ks ts.length s).2)) := eachM_node stp x ks ts s
    have HK0 : Hid (Kp S w _) := Kp.alloc S w (.cells #[.int .i64 x.k, .int .i64 x.n, .string x.t, .int .i64 x.o, .int .i64 x.a, uk, .slice a ts.length cap] 29)
    clear hk hl hc hz hr hi ih hb h0 hB0 hs hSw
    generalize eachM stp (.node x ks ts) s = res at *
    generalize stp x ks ts.length s = p1 at *
    obtain ⟨k, n, t, o, c⟩ := x
    unfold tval at *
    dsimp only at *
    obtain ⟨q, s1⟩ := p1
    dsimp only at *
    cases q with
    | false =>
      go_enter Tryz.func29, Tryz.ntmps29
      go_wp2_with fail
      go_fit E
      rintro e w1 ⟨rfl, r1, k1⟩
      go_wp2
      go_ret
      rw [HM.out, if_neg (by decide)]
      exact ⟨rfl, r1, HK0.out.trans k1⟩
    | true =>
      have HM1 : Hid (res = eachsM stp ts s1) := by have := HM.out; rwa [if_pos rfl] at this
      clear HM
      go_enter Tryz.func29, Tryz.ntmps29
      go_wp2_with fail
      go_fit E
      rintro e w1 ⟨rfl, r1, k1⟩
      have hx := k1.heap HX.out (fun hm => Nat.lt_irrefl _ (HSW.out _ hm))
      have c6 : w1.cell? ⟨w.heap.size, 6, none⟩ = some (.slice a ts.length cap) := Lib.cell_of_heap hx 6
      have K1 : Hid (Kp S w w1) := HK0.out.trans k1
      have R1 : Hid (R s1 w1) := r1
      clear hx k1 r1 E
      go_wp2_with fail
      go_loopw [6, 14] (fun _ i wr => ∃ (j : Nat) (s2 : σ), j ≤ ts.length ∧ i = .int .i64 j ∧ Hid (eachsM stp ts s1 = eachsM stp (ts.drop j) s2) ∧ Hid (R s2 wr) ∧ Hid (Kp S w wr)) (fun _ i _ => ts.length - (RowKit.intOf i).toNat)
      case atStart => exact ⟨0, s1, Nat.zero_le _, rfl, rfl, R1, K1⟩
      case round =>
        obtain ⟨j, s2, hj, rfl, HU, R2, K2⟩ := hrel
        by_cases hlt : j < ts.length
        · have hju : j < us.length := by have := HL.out.1; omega
          obtain ⟨u, hu⟩ : ∃ u, us[j] = u := ⟨_, rfl⟩
          have hb2 := HB.out.trans ((K2.out.below HSS.out HB.out.size))
          obtain ⟨b, off, rfl, hb4, x0, x1, x2, x3, x4, x5, x6⟩ := HR.out.cells hb2 j hju u hu
          have g1 : (j : Int) < ts.length := by omega
          have g3 : (j : Int) < 8796093022208 := by have := HL.out; omega
          have HD : Hid (ts.drop j = ts[j] :: ts.drop (j + 1)) := List.drop_eq_getElem_cons hlt
          have hC := fun (w : World) (r : R s2 w) => HI.out j hju hlt w s2 r
          obtain ⟨⟨k', n', t', o', c'⟩, a1, n1, c1, a2, n2, c2, hpu⟩ := (HT.out j hju hlt).parts
          rw [hu] at hC hpu
          subst hpu
          have HJ : Hid (j < ts.length) := hlt
          generalize ts[j] = tj at *
          have HB2 : Hid (Below w0.heap.size w0 wr) := hb2
          clear hu hju hlt hj hb2 c6
          dsimp only [tval] at hC x0 x1 x2 x3 x4 x5 x6
          have h0 := (Below.refl wr.heap.size wr).alloc (Nat.le_refl _) (.cells #[.int .i64 k', .int .i64 n', .string t', .int .i64 o', .int .i64 c', .slice a1 n1 c1, .slice a2 n2 c2] 29)
          have E := hC _ (HRR.out _ _ _ R2.out h0) (HB2.out.trans (h0.mono HB2.out.size)) (fun b hb => Nat.lt_of_lt_of_le (HSW.out b hb) (Nat.le_trans K2.out.size h0.size))
          have HK3 : Hid (Kp S w _) := K2.out.trans (Kp.of h0)
          clear h0 hC
          obtain ⟨⟨q3, s3⟩, HQ⟩ : ∃ p3, Hid (eachM stp tj s2 = p3) := ⟨_, rfl⟩
          rw [HQ.out] at E
          dsimp only at E
          cases q3 with
          | true =>
            go_wp2_with fail
            go_fit E
            rintro e w3 ⟨rfl, r3, k3⟩
            have K3 : Hid (Kp S w w3) := HK3.out.trans k3
            have R3 : Hid (R s3 w3) := r3
            clear k3 r3 E x0 x1 x2 x3 x4 x5 x6
            go_wp2
            go_roundw
            case rel => exact ⟨j + 1, s3, HJ.out, by go_num, by show eachsM stp ts s1 = _; rw [HU.out, HD.out, eachsM_cons, HQ.out, if_pos rfl], R3, K3⟩
            case measure => simp [RowKit.intOf]; have := HJ.out; omega
          | false =>
            go_wp2_with fail
            go_fit E
            rintro e w3 ⟨rfl, r3, k3⟩
            have K3 : Hid (Kp S w w3) := HK3.out.trans k3
            have R3 : Hid (R s3 w3) := r3
            clear k3 r3 E x0 x1 x2 x3 x4 x5 x6
            go_wp2
            go_ret
            rw [HM1.out, HU.out, HD.out, eachsM_cons, HQ.out, if_neg (by simp)]
            exact ⟨rfl, R3.out, K3.out⟩
        · have g1 : ¬ (j : Int) < ts.length := by omega
          have HE : Hid (ts.drop j = []) := List.drop_eq_nil_of_le (by omega)
          clear hlt hj
          go_wp2
          go_ret
          rw [HM1.out, HU.out, HE.out, eachsM]
          exact ⟨rfl, R2.out, K2.out⟩

set_option maxRecDepth 100000 in
set_option maxHeartbeats 8000000 in
theorem each_none {σ : Type} (stp : V → List ByteArray → Nat → σ → Bool × σ) (R : σ → World → Prop) (S : List Nat) (f : FuncId) (eg : ∀ args w, (callFunc f args).run Tryz.prog w = .ok (.enter f args) w)
    (hR : ∀ s w w', R s w → Below w.heap.size w w' → R s w') {w0 : World} (hS : ∀ b ∈ S, w0.heap.size ≤ b)
    (hf : ∀ (x : V) (ks : List ByteArray) (n cap : Nat) (a : Option Addr) (uk : Value) (w : World) (s : σ), IsStrs w uk ks → n ≤ 8796093022208 → R s w → Below w0.heap.size w0 w → Calls Tryz.prog f #[tval (x, uk, .slice a n cap)] w fun e w' => e = .returned (.bool (stp x ks n s).1) ∧ R (stp x ks n s).2 w' ∧ Kp S w w')
    {v : Value} {T : JT} (h : IsT w0 v T) : ∀ (w : World) (s : σ), R s w → Below w0.heap.size w0 w → (∀ b ∈ S, b < w.heap.size) →
    Calls Tryz.prog 29 #[v, .func (Fn.func f) #[] #[]] w fun e w' => e = .returned (.bool (eachM stp T s).1) ∧ R (eachM stp T s).2 w' ∧ Kp S w w' := by
  have HF : Hid (∀ (x : V) (ks : List ByteArray) (n cap : Nat) (a : Option Addr) (uk : Value) (w : World) (s : σ), IsStrs w uk ks → n ≤ 8796093022208 → R s w → Below w0.heap.size w0 w → Calls Tryz.prog f #[tval (x, uk, .slice a n cap)] w fun e w' => e = .returned (.bool (stp x ks n s).1) ∧ R (stp x ks n s).2 w' ∧ Kp S w w') := hf
  have HRR : Hid (∀ s w w', R s w → Below w.heap.size w w' → R s w') := hR
  have HSS : Hid (∀ b ∈ S, w0.heap.size ≤ b) := hS
  clear hf hR hS
  induction h using IsTG.ind with
  | mk x ks ts uk a cap us hk hl hc hz hr hi ih =>
    intro w s hs hb hSw
    have HI : Hid (∀ i (h : i < us.length) (h' : i < ts.length) (w : World) (s : σ), R s w → Below w0.heap.size w0 w → (∀ b ∈ S, b < w.heap.size) → Calls Tryz.prog 29 #[tval us[i], .func (Fn.func f) #[] #[]] w fun e w' => e = .returned (.bool (eachM stp ts[i] s).1) ∧ R (eachM stp ts[i] s).2 w' ∧ Kp S w w') := ih
    have HR : Hid (RowT w0 a us) := hr
    have HT : Hid (∀ i (h : i < us.length) (h' : i < ts.length), IsT w0 (tval us[i]) ts[i]) := hi
    have HL : Hid (us.length = ts.length ∧ ts.length ≤ cap ∧ ts.length ≤ 8796093022208) := ⟨hl, hc.1, hz⟩
    have HB : Hid (Below w0.heap.size w0 w) := hb
    have HSW : Hid (∀ b ∈ S, b < w.heap.size) := hSw
    have h0 := (Below.refl w.heap.size w).alloc (Nat.le_refl _) (.cells #[.int .i64 x.k, .int .i64 x.n, .string x.t, .int .i64 x.o, .int .i64 x.a, uk, .slice a ts.length cap] 29)
    have hB0 := hb.trans (h0.mono hb.size)
    have E := HF.out x ks ts.length cap a uk (w.alloc (.cells #[.int .i64 x.k, .int .i64 x.n, .string x.t, .int .i64 x.o, .int .i64 x.a, uk, .slice a ts.length cap] 29)) s (hk.below hB0) hz (HRR.out _ _ _ hs h0) hB0
    have HX : Hid ((w.alloc (.cells #[.int .i64 x.k, .int .i64 x.n, .string x.t, .int .i64 x.o, .int .i64 x.a, uk, .slice a ts.length cap] 29)).heap[w.heap.size]? = some _) := (MapKept.heap_alloc w _).1
    have HM : Hid (eachM stp (.node x ks ts) s = if (stp x ks ts.length s).1 = true then eachsM stp ts (stp x ks ts.length s).2 else (false, (stp x ks ts.length s).2)) := eachM_node stp x ks ts s
    have HK0 : Hid (Kp S w _) := Kp.alloc S w (.cells #[.int .i64 x.k, .int .i64 x.n, .string x.t, .int .i64 x.o, .int .i64 x.a, uk, .slice a ts.length cap] 29)
    clear hk hl hc hz hr hi ih hb h0 hB0 hs hSw
    generalize eachM stp (.node x ks ts) s = res at *
    generalize stp x ks ts.length s = p1 at *
    obtain ⟨k, n, t, o, c⟩ := x
    unfold tval at *
    dsimp only at *
    obtain ⟨q, s1⟩ := p1
    dsimp only at *
    cases q with
    | false =>
      go_enter Tryz.func29, Tryz.ntmps29
      go_wp2_with fail
      go_fit E
      rintro e w1 ⟨rfl, r1, k1⟩
      go_wp2
      go_ret
      rw [HM.out, if_neg (by decide)]
      exact ⟨rfl, r1, HK0.out.trans k1⟩
    | true =>
      have HM1 : Hid (res = eachsM stp ts s1) := by have := HM.out; rwa [if_pos rfl] at this
      clear HM
      go_enter Tryz.func29, Tryz.ntmps29
      go_wp2_with fail
      go_fit E
      rintro e w1 ⟨rfl, r1, k1⟩
      have hx := k1.heap HX.out (fun hm => Nat.lt_irrefl _ (HSW.out _ hm))
      have c6 : w1.cell? ⟨w.heap.size, 6, none⟩ = some (.slice a ts.length cap) := Lib.cell_of_heap hx 6
      have K1 : Hid (Kp S w w1) := HK0.out.trans k1
      have R1 : Hid (R s1 w1) := r1
      clear hx k1 r1 E
      go_wp2_with fail
      go_loopw [6, 14] (fun _ i wr => ∃ (j : Nat) (s2 : σ), j ≤ ts.length ∧ i = .int .i64 j ∧ Hid (eachsM stp ts s1 = eachsM stp (ts.drop j) s2) ∧ Hid (R s2 wr) ∧ Hid (Kp S w wr)) (fun _ i _ => ts.length - (RowKit.intOf i).toNat)
      case atStart => exact ⟨0, s1, Nat.zero_le _, rfl, rfl, R1, K1⟩
      case round =>
        obtain ⟨j, s2, hj, rfl, HU, R2, K2⟩ := hrel
        by_cases hlt : j < ts.length
        · have hju : j < us.length := by have := HL.out.1; omega
          obtain ⟨u, hu⟩ : ∃ u, us[j] = u := ⟨_, rfl⟩
          have hb2 := HB.out.trans ((K2.out.below HSS.out HB.out.size))
          obtain ⟨b, off, rfl, hb4, x0, x1, x2, x3, x4, x5, x6⟩ := HR.out.cells hb2 j hju u hu
          have g1 : (j : Int) < ts.length := by omega
          have g3 : (j : Int) < 8796093022208 := by have := HL.out; omega
          have HD : Hid (ts.drop j = ts[j] :: ts.drop (j + 1)) := List.drop_eq_getElem_cons hlt
          have hC := fun (w : World) (r : R s2 w) => HI.out j hju hlt w s2 r
          obtain ⟨⟨k', n', t', o', c'⟩, a1, n1, c1, a2, n2, c2, hpu⟩ := (HT.out j hju hlt).parts
          rw [hu] at hC hpu
          subst hpu
          have HJ : Hid (j < ts.length) := hlt
          generalize ts[j] = tj at *
          have HB2 : Hid (Below w0.heap.size w0 wr) := hb2
          clear hu hju hlt hj hb2 c6
          dsimp only [tval] at hC x0 x1 x2 x3 x4 x5 x6
          have h0 := (Below.refl wr.heap.size wr).alloc (Nat.le_refl _) (.cells #[.int .i64 k', .int .i64 n', .string t', .int .i64 o', .int .i64 c', .slice a1 n1 c1, .slice a2 n2 c2] 29)
          have E := hC _ (HRR.out _ _ _ R2.out h0) (HB2.out.trans (h0.mono HB2.out.size)) (fun b hb => Nat.lt_of_lt_of_le (HSW.out b hb) (Nat.le_trans K2.out.size h0.size))
          have HK3 : Hid (Kp S w _) := K2.out.trans (Kp.of h0)
          clear h0 hC
          obtain ⟨⟨q3, s3⟩, HQ⟩ : ∃ p3, Hid (eachM stp tj s2 = p3) := ⟨_, rfl⟩
          rw [HQ.out] at E
          dsimp only at E
          cases q3 with
          | true =>
            go_wp2_with fail
            go_fit E
            rintro e w3 ⟨rfl, r3, k3⟩
            have K3 : Hid (Kp S w w3) := HK3.out.trans k3
            have R3 : Hid (R s3 w3) := r3
            clear k3 r3 E x0 x1 x2 x3 x4 x5 x6
            go_wp2
            go_roundw
            case rel => exact ⟨j + 1, s3, HJ.out, by go_num, by show eachsM stp ts s1 = _; rw [HU.out, HD.out, eachsM_cons, HQ.out, if_pos rfl], R3, K3⟩
            case measure => simp [RowKit.intOf]; have := HJ.out; omega
          | false =>
            go_wp2_with fail
            go_fit E
            rintro e w3 ⟨rfl, r3, k3⟩
            have K3 : Hid (Kp S w w3) := HK3.out.trans k3
            have R3 : Hid (R s3 w3) := r3
            clear k3 r3 E x0 x1 x2 x3 x4 x5 x6
            go_wp2
            go_ret
            rw [HM1.out, HU.out, HD.out, eachsM_cons, HQ.out, if_neg (by simp)]
            exact ⟨rfl, R3.out, K3.out⟩
        · have g1 : ¬ (j : Int) < ts.length := by omega
          have HE : Hid (ts.drop j = []) := List.drop_eq_nil_of_le (by omega)
          clear hlt hj
          go_wp2
          go_ret
          rw [HM1.out, HU.out, HE.out, eachsM]
          exact ⟨rfl, R2.out, K2.out⟩
end Go.Proofs.YtnoikdlofkcgaaaGreatDoor
