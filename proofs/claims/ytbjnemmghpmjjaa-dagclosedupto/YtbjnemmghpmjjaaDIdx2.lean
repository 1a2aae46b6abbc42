/-
  What is proved: what IndexFunc and ContainsFunc of package slices answer of a list of refs, and of ids, whatever function of two variables of its own is handed to them.
  Conditions: the list lies in memory; the function answers, and turns nothing that was there.
-/
import Derived.Test.YtbjnemmghpmjjaaGFind
namespace Go.Proofs.Ytbjnemmghpmjjaa
open Go.RowKit Go.Maps

set_option maxRecDepth 100000 in
set_option maxHeartbeats 2000000 in
theorem idx2_any (f : FuncId) (eg : ∀ args w, (callFunc f args).run Try.prog w = .ok (.enter f args) w) (c1 c2 : Value) (p : Pr → Bool) (v : Value) (l : List Pr) (w : World) (hv : IsPairs w v l) (hp : PredR f #[c1, c2] p l w) :
    Calls Try.prog 24 #[v, .func (Fn.func f) #[] #[c1, c2]] w fun e w' => e = .returned (.int .i64 (idxP p l)) ∧ Below w.heap.size w w' := by
  obtain ⟨a, cap, rfl, h1, h2, hr, h3⟩ := hv
  have H3 : Hid (l ≠ [] → ∃ b off, a = some ⟨b, off, none⟩ ∧ _) := h3
  have HP : Hid (PredR f #[c1, c2] p l w) := hp
  have HZ : Hid (l.length ≤ cap ∧ l.length ≤ 8796093022208) := ⟨h1, h2⟩
  clear h3 hp hr h1 h2
  go_enter Try.func24, Try.ntmps24
  go_wp2_with fail
  go_loopw [8] (fun i wr => ∃ k : Nat, k ≤ l.length ∧ i = .int .i64 k ∧ Hid (∀ j (hj : j < k) (hl : j < l.length), p l[j] = false) ∧ Below w.heap.size w wr) (fun i _ => l.length - (RowKit.intOf i).toNat)
  case atStart => exact ⟨0, Nat.zero_le _, rfl, fun j hj => absurd hj (Nat.not_lt_zero _), Below.refl _ _⟩
  case round =>
    obtain ⟨k, hk, rfl, hno, hbel⟩ := hrel
    by_cases hlt : k < l.length
    · obtain ⟨b, off, rfl, h4, h5⟩ := H3.out (fun e => by rw [e] at hlt; simp at hlt)
      have x0 : wr.cell? ⟨b, off + k * 2, none⟩ = some (.int .i64 l[k].1) := by rw [hbel.cell (p := ⟨b, off + k * 2, none⟩) h4]; exact (h5 k hlt).1
      have x1 : wr.cell? ⟨b, off + k * 2 + 1, none⟩ = some (.int .i64 l[k].2) := by rw [hbel.cell (p := ⟨b, off + k * 2 + 1, none⟩) h4]; exact (h5 k hlt).2
      have g1 : (k : Int) < l.length := by omega
      have g2 : (k : Int) < 8796093022208 := by have := HZ.out; omega
      have E := HP.out l[k] (List.getElem_mem hlt) wr hbel
      obtain ⟨q, hq⟩ : ∃ q : Pr, l[k] = q := ⟨_, rfl⟩
      have HK : Hid (k < l.length) := hlt
      have HQ : Hid (∀ h : k < l.length, l[k] = q) := fun _ => hq
      rw [hq] at x0 x1 E
      clear hq
      have HB : Hid (Below w.heap.size w wr) := hbel
      clear h5 hk hbel hlt
      cases hpq : p q with
      | true =>
        rw [hpq] at E
        go_wp2_with fail
        go_fit E
        rintro e w2 ⟨rfl, b2⟩
        have HB2 : Hid (Below w.heap.size w w2) := HB.out.trans (b2.mono HB.out.size)
        clear b2 E
        go_wp2
        go_ret
        have e1 := idxP_at p l k HK.out (fun j hj => hno.out j hj (by have := HK.out; omega)) (by rw [HQ.out HK.out]; exact hpq)
        exact ⟨by rw [e1]; rfl, HB2.out⟩
      | false =>
        rw [hpq] at E
        go_wp2_with fail
        go_fit E
        rintro e w2 ⟨rfl, b2⟩
        have HB2 : Hid (Below w.heap.size w w2) := HB.out.trans (b2.mono HB.out.size)
        clear b2 E
        go_wp2
        go_roundw
        case rel =>
          refine ⟨k + 1, HK.out, by go_num, fun j hj hl => ?_, HB2.out⟩
          rcases Nat.lt_or_ge j k with e | e
          · exact hno.out j e hl
          · obtain rfl : j = k := by omega
            rw [HQ.out HK.out]; exact hpq
        case measure => simp [RowKit.intOf]; have := HK.out; omega
    · have hke : k = l.length := by omega
      subst hke
      have e1 : idxP p l = -1 := idxP_none.2 (fun x hx => by
        obtain ⟨j, hj, rfl⟩ := List.getElem_of_mem hx
        exact hno.out j hj hj)
      have HE : Hid (idxP p l = -1) := e1
      have HB : Hid (Below w.heap.size w wr) := hbel
      clear e1 hlt hk hno hbel
      go_wp2
      go_ret
      exact ⟨by rw [HE.out]; rfl, HB.out⟩

set_option maxRecDepth 100000 in
set_option maxHeartbeats 2000000 in
theorem idxD_any (f : FuncId) (eg : ∀ args w, (callFunc f args).run Try.prog w = .ok (.enter f args) w) (c1 c2 : Value) (p : Pr → Bool) (v : Value) (l : List Pr) (w : World) (hv : IsPairs w v l) (hp : PredR f #[c1, c2] p l w) :
    Calls Try.prog 80 #[v, .func (Fn.func f) #[] #[c1, c2]] w fun e w' => e = .returned (.int .i64 (idxP p l)) ∧ Below w.heap.size w w' := by
  obtain ⟨a, cap, rfl, h1, h2, hr, h3⟩ := hv
  have H3 : Hid (l ≠ [] → ∃ b off, a = some ⟨b, off, none⟩ ∧ _) := h3
  have HP : Hid (PredR f #[c1, c2] p l w) := hp
  have HZ : Hid (l.length ≤ cap ∧ l.length ≤ 8796093022208) := ⟨h1, h2⟩
  clear h3 hp hr h1 h2
  go_enter Try.func80, Try.ntmps80
  go_wp2_with fail
  go_loopw [8] (fun i wr => ∃ k : Nat, k ≤ l.length ∧ i = .int .i64 k ∧ Hid (∀ j (hj : j < k) (hl : j < l.length), p l[j] = false) ∧ Below w.heap.size w wr) (fun i _ => l.length - (RowKit.intOf i).toNat)
  case atStart => exact ⟨0, Nat.zero_le _, rfl, fun j hj => absurd hj (Nat.not_lt_zero _), Below.refl _ _⟩
  case round =>
    obtain ⟨k, hk, rfl, hno, hbel⟩ := hrel
    by_cases hlt : k < l.length
    · obtain ⟨b, off, rfl, h4, h5⟩ := H3.out (fun e => by rw [e] at hlt; simp at hlt)
      have x0 : wr.cell? ⟨b, off + k * 2, none⟩ = some (.int .i64 l[k].1) := by rw [hbel.cell (p := ⟨b, off + k * 2, none⟩) h4]; exact (h5 k hlt).1
      have x1 : wr.cell? ⟨b, off + k * 2 + 1, none⟩ = some (.int .i64 l[k].2) := by rw [hbel.cell (p := ⟨b, off + k * 2 + 1, none⟩) h4]; exact (h5 k hlt).2
      have g1 : (k : Int) < l.length := by omega
      have g2 : (k : Int) < 8796093022208 := by have := HZ.out; omega
      have E := HP.out l[k] (List.getElem_mem hlt) wr hbel
      obtain ⟨q, hq⟩ : ∃ q : Pr, l[k] = q := ⟨_, rfl⟩
      have HK : Hid (k < l.length) := hlt
      have HQ : Hid (∀ h : k < l.length, l[k] = q) := fun _ => hq
      rw [hq] at x0 x1 E
      clear hq
      have HB : Hid (Below w.heap.size w wr) := hbel
      clear h5 hk hbel hlt
      cases hpq : p q with
      | true =>
        rw [hpq] at E
        go_wp2_with fail
        go_fit E
        rintro e w2 ⟨rfl, b2⟩
        have HB2 : Hid (Below w.heap.size w w2) := HB.out.trans (b2.mono HB.out.size)
        clear b2 E
        go_wp2
        go_ret
        have e1 := idxP_at p l k HK.out (fun j hj => hno.out j hj (by have := HK.out; omega)) (by rw [HQ.out HK.out]; exact hpq)
        exact ⟨by rw [e1]; rfl, HB2.out⟩
      | false =>
        rw [hpq] at E
        go_wp2_with fail
        go_fit E
        rintro e w2 ⟨rfl, b2⟩
        have HB2 : Hid (Below w.heap.size w w2) := HB.out.trans (b2.mono HB.out.size)
        clear b2 E
        go_wp2
        go_roundw
        case rel =>
          refine ⟨k + 1, HK.out, by go_num, fun j hj hl => ?_, HB2.out⟩
          rcases Nat.lt_or_ge j k with e | e
          · exact hno.out j e hl
          · obtain rfl : j = k := by omega
            rw [HQ.out HK.out]; exact hpq
        case measure => simp [RowKit.intOf]; have := HK.out; omega
    · have hke : k = l.length := by omega
      subst hke
      have e1 : idxP p l = -1 := idxP_none.2 (fun x hx => by
        obtain ⟨j, hj, rfl⟩ := List.getElem_of_mem hx
        exact hno.out j hj hj)
      have HE : Hid (idxP p l = -1) := e1
      have HB : Hid (Below w.heap.size w wr) := hbel
      clear e1 hlt hk hno hbel
      go_wp2
      go_ret
      exact ⟨by rw [HE.out]; rfl, HB.out⟩

set_option maxRecDepth 100000 in
set_option maxHeartbeats 2000000 in
theorem containsD_any (f : FuncId) (eg : ∀ args w, (callFunc f args).run Try.prog w = .ok (.enter f args) w) (c1 c2 : Value) (p : Pr → Bool) (v : Value) (l : List Pr) (w : World) (hv : IsPairs w v l) (hp : PredR f #[c1, c2] p l w) :
    Calls Try.prog 60 #[v, .func (Fn.func f) #[] #[c1, c2]] w fun e w' => e = .returned (.bool (l.any p)) ∧ Below w.heap.size w w' := by
  have E := idxD_any f eg c1 c2 p v l w hv hp
  have hr := idxP_range p l
  have HR : Hid ((l.any p = true ↔ 0 ≤ idxP p l)) := by
    show _ ↔ _
    constructor
    · intro h
      have : idxP p l ≠ -1 := fun e => by
        obtain ⟨x, hx, hy⟩ := List.any_eq_true.1 h
        rw [idxP_none.1 e x hx] at hy
        cases hy
      omega
    · intro h
      cases ha : l.any p with
      | true => rfl
      | false =>
        have : idxP p l = -1 := idxP_none.2 (fun x hx => by
          cases hpx : p x with
          | false => rfl
          | true => rw [List.any_eq_true.2 ⟨x, hx, hpx⟩] at ha; cases ha)
        omega
  obtain ⟨ix, hix⟩ : ∃ x : Int, Hid (x = idxP p l) := ⟨_, rfl⟩
  rw [← hix.out] at E HR
  obtain ⟨a, cap, rfl, _⟩ := hv
  clear hr hp
  by_cases h0 : 0 ≤ ix
  · go_enter Try.func60, Try.ntmps60
    go_wp2_with fail
    go_fit E
    rintro e w1 ⟨rfl, b1⟩
    go_wp2
    go_ret
    exact ⟨by rw [HR.out.2 h0]; simp, b1⟩
  · go_enter Try.func60, Try.ntmps60
    go_wp2_with fail
    go_fit E
    rintro e w1 ⟨rfl, b1⟩
    go_wp2
    go_ret
    have : l.any p = false := by
      cases ha : l.any p with
      | false => rfl
      | true => exact absurd (HR.out.1 ha) (by omega)
    exact ⟨by rw [this]; simp [h0], b1⟩
end Go.Proofs.Ytbjnemmghpmjjaa
