/-
  What is proved: what IndexFunc and ContainsFunc of package slices answer of a path, whatever function without variables of its own is handed to them; and isPatch of package json.
  Conditions: the path lies in memory.
-/
import Derived.Test.YtegbjkjeoegfbaaDoorJChangeK
namespace Go.Proofs.YtegbjkjeoegfbaaDoor
open Go.RowKit Go.Maps

/-- The first index of which something holds; -1, if there is none. -/
def idxQ (p : Stp → Bool) : List Stp → Int
  | [] => -1
  | x :: l => if p x then 0 else if idxQ p l = -1 then -1 else idxQ p l + 1

/-- A function that answers of each step, and turns nothing that was there. -/
def PredQ (f : FuncId) (lb : Array Value) (p : Stp → Bool) (l : List Stp) (w : World) : Prop :=
  ∀ r ∈ l, ∀ W, Below w.heap.size w W → Calls Tryd.prog f (#[stpV r] ++ lb) W fun e W' => e = .returned (.bool (p r)) ∧ Below W.heap.size W W'

theorem idxQ_range (p : Stp → Bool) (l : List Stp) : -1 ≤ idxQ p l ∧ idxQ p l < l.length := by
  induction l with
  | nil => simp [idxQ]
  | cons x l ih =>
    simp only [idxQ, List.length_cons]
    split
    · omega
    · split <;> omega
theorem idxQ_none {p : Stp → Bool} {l : List Stp} : idxQ p l = -1 ↔ ∀ x ∈ l, p x = false := by
  induction l with
  | nil => simp [idxQ]
  | cons x l ih =>
    have h1 := idxQ_range p l
    simp only [idxQ]
    split
    · rename_i h; simp [h]
    · rename_i h
      split
      · rename_i e
        simp only [List.mem_cons, forall_eq_or_imp, true_iff]
        exact ⟨by simpa using h, ih.1 e⟩
      · rename_i e
        simp only [List.mem_cons, forall_eq_or_imp]
        refine ⟨fun e2 => by omega, fun e2 => absurd (ih.2 e2.2) e⟩
theorem idxQ_at (p : Stp → Bool) (l : List Stp) (k : Nat) (hk : k < l.length) (hno : ∀ j (hj : j < k), p (l[j]'(by omega)) = false) (hy : p l[k] = true) : idxQ p l = k := by
  induction l generalizing k with
  | nil => simp at hk
  | cons x l ih =>
    cases k with
    | zero => simp only [List.getElem_cons_zero] at hy; simp [idxQ, hy]
    | succ k =>
      have h0 := hno 0 (by omega)
      simp only [List.getElem_cons_zero] at h0
      have := ih k (by simpa using hk) (fun j hj => by have := hno (j + 1) (by omega); simpa using this) (by simpa using hy)
      simp only [idxQ, h0]
      rw [this]
      rw [if_neg (by simp), if_neg (by omega)]
      omega

set_option maxRecDepth 100000 in
set_option maxHeartbeats 2000000 in
theorem idxS_any (f : FuncId) (eg : ∀ args w, (callFunc f args).run Tryd.prog w = .ok (.enter f args) w) (p : Stp → Bool) (v : Value) (l : List Stp) (w : World) (hv : IsSteps w v l) (hp : PredQ f #[] p l w) :
    Calls Tryd.prog 39 #[v, .func (Fn.func f) #[] #[]] w fun e w' => e = .returned (.int .i64 (idxQ p l)) ∧ Below w.heap.size w w' := by
  obtain ⟨a, cap, rfl, h1, h2, h3⟩ := hv
  have H3 : Hid (l ≠ [] → ∃ b off, a = some ⟨b, off, none⟩ ∧ _) := h3
  have HP : Hid (PredQ f #[] p l w) := hp
  have HZ : Hid (l.length ≤ cap ∧ l.length ≤ 8796093022208) := ⟨h1, h2⟩
  clear h3 hp h1 h2
  go_enter Tryd.func39, Tryd.ntmps39
  go_wp2_with fail
  go_loopw [8] (fun i wr => ∃ k : Nat, k ≤ l.length ∧ i = .int .i64 k ∧ Hid (∀ j (hj : j < k) (hl : j < l.length), p l[j] = false) ∧ Below w.heap.size w wr) (fun i _ => l.length - (RowKit.intOf i).toNat)
  case atStart => exact ⟨0, Nat.zero_le _, rfl, fun j hj => absurd hj (Nat.not_lt_zero _), Below.refl _ _⟩
  case round =>
    obtain ⟨k, hk, rfl, hno, hbel⟩ := hrel
    by_cases hlt : k < l.length
    · obtain ⟨b, off, rfl, h4, h5⟩ := H3.out (fun e => by rw [e] at hlt; simp at hlt)
      have x0 : wr.cell? ⟨b, off + k * 2, none⟩ = some (.string l[k].1) := by rw [hbel.cell (p := ⟨b, off + k * 2, none⟩) h4]; exact (h5 k hlt).1
      have x1 : wr.cell? ⟨b, off + k * 2 + 1, none⟩ = some (.int .i64 l[k].2) := by rw [hbel.cell (p := ⟨b, off + k * 2 + 1, none⟩) h4]; exact (h5 k hlt).2
      have g1 : (k : Int) < l.length := by omega
      have g2 : (k : Int) < 8796093022208 := by have := HZ.out; omega
      have E := HP.out l[k] (List.getElem_mem hlt) wr hbel
      obtain ⟨q, hq⟩ : ∃ q : Stp, l[k] = q := ⟨_, rfl⟩
      have HK : Hid (k < l.length) := hlt
      have HQ : Hid (∀ h : k < l.length, l[k] = q) := fun _ => hq
      rw [hq] at x0 x1 E
      clear hq
      have HB : Hid (Below w.heap.size w wr) := hbel
      obtain ⟨qs, qi⟩ := q
      dsimp only [stpV] at x0 x1 E
      clear h5 hk hbel hlt
      cases hpq : p (qs, qi) with
      | true =>
        rw [hpq] at E
        go_wp2_with fail
        go_fit E
        rintro e w2 ⟨rfl, b2⟩
        have HB2 : Hid (Below w.heap.size w w2) := HB.out.trans (b2.mono HB.out.size)
        clear b2 E
        go_wp2
        go_ret
        have e1 := idxQ_at p l k HK.out (fun j hj => hno.out j hj (by have := HK.out; omega)) (by rw [HQ.out HK.out]; exact hpq)
        exact ⟨by rw [e1]; rfl, HB2.out⟩
      | false =>
        rw [hpq] at E
        go_wp2_with fail
        go_fit E
        rintro e w2 ⟨rfl, b2⟩
        have HB2 : Hid (Below w.heap.size w w2) := HB.out.trans (b2.mono HB.out.size)
        clear b2 E
        go_wp2
        go_roundw
        case rel =>
          refine ⟨k + 1, HK.out, by go_num, fun j hj hl => ?_, HB2.out⟩
          rcases Nat.lt_or_ge j k with e | e
          · exact hno.out j e hl
          · obtain rfl : j = k := by omega
            rw [HQ.out HK.out]; exact hpq
        case measure => simp [RowKit.intOf]; have := HK.out; omega
    · have hke : k = l.length := by omega
      subst hke
      have e1 : idxQ p l = -1 := idxQ_none.2 (fun x hx => by
        obtain ⟨j, hj, rfl⟩ := List.getElem_of_mem hx
        exact hno.out j hj hj)
      have HE : Hid (idxQ p l = -1) := e1
      have HB : Hid (Below w.heap.size w wr) := hbel
      clear e1 hlt hk hno hbel
      go_wp2
      go_ret
      exact ⟨by rw [HE.out]; rfl, HB.out⟩

set_option maxRecDepth 100000 in
set_option maxHeartbeats 2000000 in
theorem containsS_any (f : FuncId) (eg : ∀ args w, (callFunc f args).run Tryd.prog w = .ok (.enter f args) w) (p : Stp → Bool) (v : Value) (l : List Stp) (w : World) (hv : IsSteps w v l) (hp : PredQ f #[] p l w) :
    Calls Tryd.prog 31 #[v, .func (Fn.func f) #[] #[]] w fun e w' => e = .returned (.bool (l.any p)) ∧ Below w.heap.size w w' := by
  have E := idxS_any f eg p v l w hv hp
  have hr := idxQ_range p l
  have HR : Hid ((l.any p = true ↔ 0 ≤ idxQ p l)) := by
    show _ ↔ _
    constructor
    · intro h
      have : idxQ p l ≠ -1 := fun e => by
        obtain ⟨x, hx, hy⟩ := List.any_eq_true.1 h
        rw [idxQ_none.1 e x hx] at hy
        cases hy
      omega
    · intro h
      cases ha : l.any p with
      | true => rfl
      | false =>
        have : idxQ p l = -1 := idxQ_none.2 (fun x hx => by
          cases hpx : p x with
          | false => rfl
          | true => rw [List.any_eq_true.2 ⟨x, hx, hpx⟩] at ha; cases ha)
        omega
  obtain ⟨ix, hix⟩ : ∃ x : Int, Hid (x = idxQ p l) := ⟨_, rfl⟩
  rw [← hix.out] at E HR
  obtain ⟨a, cap, rfl, _⟩ := hv
  clear hr hp
  by_cases h0 : 0 ≤ ix
  · go_enter Tryd.func31, Tryd.ntmps31
    go_wp2_with fail
    go_fit E
    rintro e w1 ⟨rfl, b1⟩
    go_wp2
    go_ret
    exact ⟨by rw [HR.out.2 h0]; simp, b1⟩
  · go_enter Tryd.func31, Tryd.ntmps31
    go_wp2_with fail
    go_fit E
    rintro e w1 ⟨rfl, b1⟩
    go_wp2
    go_ret
    have : l.any p = false := by
      cases ha : l.any p with
      | false => rfl
      | true => exact absurd (HR.out.1 ha) (by omega)
    exact ⟨by rw [this]; simp [h0], b1⟩

/-- Is a step's key too long? -/
def longB (s : Stp) : Bool := decide (20 < s.1.size)
set_option maxRecDepth 100000 in
set_option maxHeartbeats 2000000 in
theorem long_any (s : Stp) (w : World) :
    Calls Tryd.prog 30 #[stpV s] w fun e w' => e = .returned (.bool (longB s)) ∧ Below w.heap.size w w' := by
  obtain ⟨k, i⟩ := s
  have HL : Hid (longB (k, i) = decide (20 < k.size)) := rfl
  have b0 := (Below.refl w.heap.size w).alloc (Nat.le_refl _) (.cells #[.string k, .int .i64 i] 45)
  have HB : Hid (Below w.heap.size w _) := b0
  clear b0
  dsimp only [stpV]
  by_cases h : 20 < k.size
  · have hl : (20 : Int) < k.size := by omega
    go_enter Tryd.func30, Tryd.ntmps30
    go_wp2
    go_ret
    exact ⟨by rw [HL.out, decide_eq_true h]; simp, HB.out⟩
  · have hl : ¬ (20 : Int) < k.size := by omega
    go_enter Tryd.func30, Tryd.ntmps30
    go_wp2
    go_ret
    exact ⟨by rw [HL.out, decide_eq_false h]; simp, HB.out⟩

/-- Is a patch one that may be done? -/
def patK (k : Int) (l : List Stp) (y : V) : Bool := decide (1 ≤ k ∧ k ≤ 3) && (valB y && !l.any longB)
set_option maxRecDepth 100000 in
set_option maxHeartbeats 4000000 in
theorem isPatchK_any {p : Value} {l : List Stp} (k : Int) (y : V) (w : World) (hp : IsSteps w p l) :
    Calls Tryd.prog 23 #[pchK k p y] w fun e w' => e = .returned (.bool (patK k l y)) ∧ Below w.heap.size w w' := by
  have hpf : ∃ pa pn pc, p = .slice pa pn pc := by obtain ⟨a, c, e, _⟩ := hp; exact ⟨_, _, _, e⟩
  obtain ⟨pa, pn, pc, rfl⟩ := hpf
  have HV := fun W => isValue_any y W
  have HE : Hid (patK k l y = (decide (1 ≤ k ∧ k ≤ 3) && (valB y && !l.any longB))) := rfl
  have HC : Hid (∀ W, Below w.heap.size w W → Calls Tryd.prog 31 #[.slice pa pn pc, .func (Fn.func 30) #[] #[]] W fun e w' => e = .returned (.bool (l.any longB)) ∧ Below W.heap.size W w') := fun W hb =>
    containsS_any 30 (enters_of Tryd.func30 (by kernel_rfl) rfl) longB _ l W (hp.below hb) (fun r _ W' _ => long_any r W')
  have x0 := (MapKept.heap_alloc w (.cells #[.int .i64 k, .slice pa pn pc, .int .i64 y.k, .int .i64 y.n, .string y.t, .int .i64 y.o, .int .i64 y.a] 43)).1
  have b0 := (Below.refl w.heap.size w).alloc (Nat.le_refl _) (.cells #[.int .i64 k, .slice pa pn pc, .int .i64 y.k, .int .i64 y.n, .string y.t, .int .i64 y.o, .int .i64 y.a] 43)
  have HX : Hid (_ = some _) := x0
  have HB : Hid (Below w.heap.size w _) := b0
  clear x0 b0 hp
  generalize patK k l y = r at *
  generalize l.any longB = la at *
  obtain ⟨vb, HVB⟩ : ∃ vb, Hid (valB y = vb) := ⟨_, rfl⟩
  rw [HVB.out] at HE
  have E1 := HV (w.alloc (.cells #[.int .i64 k, .slice pa pn pc, .int .i64 y.k, .int .i64 y.n, .string y.t, .int .i64 y.o, .int .i64 y.a] 43))
  rw [HVB.out] at E1
  clear HV HVB
  obtain ⟨yk, yn, yt, yo, ya⟩ := y
  dsimp only [pchK, V.val] at *
  by_cases h1 : 1 ≤ k
  · by_cases h3 : k ≤ 3
    · have HE2 : Hid (r = (vb && !la)) := by show r = _; rw [HE.out, decide_eq_true ⟨h1, h3⟩]; rfl
      clear HE
      go_enter Tryd.func23, Tryd.ntmps23
      go_wp2_with fail
      go_fit E1
      rintro e w1 ⟨rfl, b1⟩
      have HX1 : Hid (w1.heap[w.heap.size]? = some _) := (b1.block _ (lt_of_heap HX.out)).trans HX.out
      have HB1 : Hid (Below w.heap.size w w1) := HB.out.trans (b1.mono HB.out.size)
      clear b1 E1 HX HB
      cases vb with
      | false =>
        go_wp2
        go_ret
        exact ⟨by rw [HE2.out]; rfl, HB1.out⟩
      | true =>
        have c1 : w1.cell? ⟨w.heap.size, 1, none⟩ = some (.slice pa pn pc) := Lib.cell_of_heap HX1.out 1
        have E2 := HC.out w1 HB1.out
        go_wp2_with fail
        go_fit E2
        rintro e w2 ⟨rfl, b2⟩
        have HB2 : Hid (Below w.heap.size w w2) := HB1.out.trans (b2.mono HB1.out.size)
        clear b2 E2 c1
        go_wp2
        go_ret
        exact ⟨by rw [HE2.out]; rfl, HB2.out⟩
    · have HE2 : Hid (r = false) := by show r = _; rw [HE.out, decide_eq_false (fun h => h3 h.2)]; rfl
      clear HE E1
      go_enter Tryd.func23, Tryd.ntmps23
      go_wp2
      go_ret
      exact ⟨by rw [HE2.out]; rfl, HB.out⟩
  · have HE2 : Hid (r = false) := by show r = _; rw [HE.out, decide_eq_false (fun h => h1 h.1)]; rfl
    clear HE E1
    go_enter Tryd.func23, Tryd.ntmps23
    go_wp2
    go_ret
    exact ⟨by rw [HE2.out]; rfl, HB.out⟩
end Go.Proofs.YtegbjkjeoegfbaaDoor
