/-
  What is proved: the function Covers of package id, called with any two lists, tells what is wrong, or whether the one knows of each actor as much as the other one; nothing that was there has turned.
  Conditions: the lists lie in memory, no longer than a row's reach.
-/
import Derived.Test.YtgiggobpbddlbaaJoin
namespace Go.Proofs.Ytgiggobpbddlbaa
open Go.RowKit Go.Maps Go.Sort

set_option maxHeartbeats 400000 in
theorem covers_no (v u : Value) (l r : List Ref) (w : World) (h : IsRefs w v l) (k : IsRefs w u r) (hv : ¬ (Valid l ∧ Valid r)) :
    Calls Try.prog 7 #[v, u] w fun e w' => (∃ x, e = .returned (.tuple #[.bool false, .iface 23 (.int .i64 x)])) ∧ Below w.heap.size w w' := by
  go_enter Try.func7, Try.ntmps7
  go_wp2_with fail
  refine (both_no v u l r _ h k hv).mono ?_
  rintro e w1 ⟨⟨x, rfl⟩, hb1⟩
  go_wp2
  go_ret2
  exact ⟨⟨x, rfl⟩, hb1⟩

set_option maxHeartbeats 400000 in
set_option maxRecDepth 100000 in
theorem out_any (p : Ref) (bc bm n : Nat) (f : Int → Int) (w : World) (hp : OkRef p) (hc : w.cell? ⟨bc, 0, none⟩ = some (.map (some bm))) (hbc : bc < w.heap.size) (hm : MapIs w bm n f) :
    Calls Try.prog 12 #[.agg #[.int .i64 p.1, .int .i64 p.2], .pointer (some ⟨bc, 0, none⟩)] w fun e w' => e = .returned (.bool (decide (f p.1 < p.2))) ∧ Below w.heap.size w w' := by
  obtain ⟨D, hown, hK⟩ := hm
  obtain ⟨o1, o2, o3, o4⟩ := hp
  have hkey : keyOf Try.prog 3 (.int .i64 p.1) = some (.int .i64 p.1) := keyOf_int_mk Try.underlying3 (wf_small _ (by omega) (by omega))
  have hc' : ∀ o, (w.alloc o).cell? ⟨bc, 0, none⟩ = some (.map (some bm)) := fun o => (World.cell?_alloc_past o _ _ hbc).trans hc
  go_enter Try.func12, Try.ntmps12
  go_wp2_with (first | (at_lookup; refine wpList_lookup_own_int _ rfl _ _ 38 rfl 3 3 .i64 law3 Try.underlying38 Try.underlying3 (zero3 _) bm n _ rfl (hown.alloc _) _ _ rfl hkey ?_; intro c hat hwc; obtain rfl := hK.at hat) | go_in)
  go_ret
  exact ⟨rfl, (Below.refl _ _).alloc (Nat.le_refl _) _⟩

/-- What IndexFunc answers. -/
def Found (f : Int → Int) (r : List Ref) (z : Int) : Prop := (0 ≤ z ∧ ∃ p ∈ r, f p.1 < p.2) ∨ (z = -1 ∧ ∀ p ∈ r, p.2 ≤ f p.1)

set_option maxHeartbeats 400000 in
theorem index_none (a : Option Addr) (c : Nat) (g : Value) (f : Int → Int) (w : World) : Calls Try.prog 17 #[.slice a 0 c, g] w fun e w' => (∃ z, e = .returned (.int .i64 z) ∧ Found f [] z) ∧ Below w.heap.size w w' := by
  go_enter Try.func17, Try.ntmps17
  go_wp2
  refine wp_loop_rounds 1 ?_
  rw [rounds_succ]
  go_wp2
  go_ret
  exact ⟨⟨_, rfl, Or.inr ⟨rfl, by simp⟩⟩, Below.refl _ _⟩

theorem map_below {w w' : World} {bm n : Nat} {f : Int → Int} (h : MapIs w bm n f) (hb : Below w.heap.size w w') : MapIs w' bm n f := by
  obtain ⟨D, ho, hK⟩ := h
  exact ⟨D, own_below ho hb ho.lt, hK⟩

set_option maxHeartbeats 1000000 in
theorem index_some (b off cap bc bm n : Nat) (f : Int → Int) (r : List Ref) (w : World) (hr : Valid r) (hb : b < w.heap.size)
    (hc : ∀ i (h : i < r.length), w.cell? ⟨b, off + i * 2, none⟩ = some (.int .i64 r[i].1) ∧ w.cell? ⟨b, off + i * 2 + 1, none⟩ = some (.int .i64 r[i].2))
    (hbc : bc < w.heap.size) (hcc : w.cell? ⟨bc, 0, none⟩ = some (.map (some bm))) (hm : MapIs w bm n f) :
    Calls Try.prog 17 #[.slice (some ⟨b, off, none⟩) r.length cap, .func (.func 12) #[] #[.pointer (some ⟨bc, 0, none⟩)]] w fun e w' => (∃ z, e = .returned (.int .i64 z) ∧ Found f r z) ∧ Below w.heap.size w w' := by
  have hlen := valid_len hr
  go_enter Try.func17, Try.ntmps17
  go_wp2
  go_loopw [8] (fun i wr => ∃ k : Nat, k ≤ r.length ∧ i = .int .i64 k ∧ (∀ p ∈ r.take k, p.2 ≤ f p.1) ∧ Below w.heap.size w wr) (fun i _ => r.length - (RowKit.intOf i).toNat)
  case atStart => exact ⟨0, Nat.zero_le _, rfl, by simp, Below.refl _ _⟩
  case round =>
    obtain ⟨k, hk, rfl, hall, hbel⟩ := hrel
    by_cases hlt : k < r.length
    · have x0 : wr.cell? ⟨b, off + k * 2, none⟩ = some (.int .i64 r[k].1) := by rw [hbel.cell (p := ⟨b, off + k * 2, none⟩) hb]; exact (hc k hlt).1
      have x1 : wr.cell? ⟨b, off + k * 2 + 1, none⟩ = some (.int .i64 r[k].2) := by rw [hbel.cell (p := ⟨b, off + k * 2 + 1, none⟩) hb]; exact (hc k hlt).2
      have hO := out_any r[k] bc bm n f wr (hr.1 _ (List.getElem_mem hlt)) ((hbel.cell (p := ⟨bc, 0, none⟩) hbc).trans hcc) (Nat.lt_of_lt_of_le hbc hbel.size) (map_below hm hbel)
      by_cases hd : f r[k].1 < r[k].2
      · have HF : Hid (Found f r k) := Or.inl ⟨by omega, r[k], List.getElem_mem hlt, hd⟩
        rw [show decide (f r[k].1 < r[k].2) = true from by simpa using hd] at hO
        have HO := hO
        clear hO hall hm hc
        go_wp2_with (go_at_call 12; refine HO.mono ?_; rintro e w2 ⟨rfl, hb2⟩)
        go_ret
        exact ⟨⟨_, rfl, HF.out⟩, hbel.trans (hb2.mono hbel.size)⟩
      · have HA : Hid (∀ p ∈ r.take (k + 1), p.2 ≤ f p.1) := by
          intro p hp
          rw [List.take_succ_eq_append_getElem hlt] at hp
          rcases List.mem_append.1 hp with h | h
          · exact hall p h
          · rw [List.mem_singleton.1 h]; omega
        rw [show decide (f r[k].1 < r[k].2) = false from by simpa using hd] at hO
        have HO := hO
        clear hO hall hm hc
        go_wp2_with (go_at_call 12; refine HO.mono ?_; rintro e w2 ⟨rfl, hb2⟩)
        go_roundw
        case rel => exact ⟨k + 1, hlt, by go_num, HA.out, hbel.trans (hb2.mono hbel.size)⟩
        case measure => simp [RowKit.intOf]; omega
    · have HF : Hid (Found f r (-1)) := Or.inr ⟨rfl, by rw [List.take_of_length_le (by omega)] at hall; exact hall⟩
      clear hall
      go_wp2
      go_ret
      exact ⟨⟨_, rfl, HF.out⟩, hbel⟩

theorem index_any (u : Value) (bc bm n : Nat) (f : Int → Int) (r : List Ref) (w : World) (h : IsRefs w u r) (hr : Valid r) (hbc : bc < w.heap.size) (hcc : w.cell? ⟨bc, 0, none⟩ = some (.map (some bm))) (hm : MapIs w bm n f) :
    Calls Try.prog 17 #[u, .func (.func 12) #[] #[.pointer (some ⟨bc, 0, none⟩)]] w fun e w' => (∃ z, e = .returned (.int .i64 z) ∧ Found f r z) ∧ Below w.heap.size w w' := by
  rcases h with ⟨a, c, rfl, rfl⟩ | ⟨b, off, cap, rfl, h1, _, h3⟩
  · exact index_none a c _ f w
  · exact index_some b off cap bc bm n f r w hr h1 h3 hbc hcc hm

/-- What ContainsFunc answers. -/
def Has (f : Int → Int) (r : List Ref) (c : Bool) : Prop := c = true ↔ ∃ p ∈ r, f p.1 < p.2

theorem has_of {f : Int → Int} {r : List Ref} {z : Int} (h : Found f r z) : Has f r (decide (0 ≤ z)) := by
  unfold Has
  rw [decide_eq_true_eq]
  rcases h with ⟨h1, h2⟩ | ⟨h1, h2⟩
  · exact ⟨fun _ => h2, fun _ => h1⟩
  · constructor
    · intro h; omega
    · rintro ⟨p, hp, h⟩
      have := h2 p hp
      omega

set_option maxHeartbeats 400000 in
theorem contains_any (u : Value) (bc bm n : Nat) (f : Int → Int) (r : List Ref) (w : World) (h : IsRefs w u r) (hr : Valid r) (hbc : bc < w.heap.size) (hcc : w.cell? ⟨bc, 0, none⟩ = some (.map (some bm))) (hm : MapIs w bm n f) :
    Calls Try.prog 13 #[u, .func (.func 12) #[] #[.pointer (some ⟨bc, 0, none⟩)]] w fun e w' => (∃ c, e = .returned (.bool c) ∧ Has f r c) ∧ Below w.heap.size w w' := by
  have hI := index_any u bc bm n f r w h hr hbc hcc hm
  clear hm hcc h
  go_enter Try.func13, Try.ntmps13
  go_wp2_with fail
  refine hI.mono ?_
  rintro e w1 ⟨⟨z, rfl, hz⟩, hb⟩
  have HZ : Hid (Has f r (decide (0 ≤ z))) := has_of hz
  clear hz
  go_wp2
  go_ret
  exact ⟨⟨_, rfl, HZ.out⟩, hb⟩

/-- What Covers answers. -/
def Covering (l r : List Ref) (c : Bool) : Prop := c = true ↔ ∀ x, mx r x ≤ mx l x

theorem covering_of {l r : List Ref} {c : Bool} (hr : Valid r) (h : Has (mx l) r c) : Covering l r (!c) := by
  unfold Covering
  rw [← covers_iff hr]
  unfold Has at h
  constructor
  · intro h1 p hp
    have h2 : ¬ c = true := by cases c <;> simp_all
    by_cases h3 : mx l p.1 < p.2
    · exact absurd (h.2 ⟨p, hp, h3⟩) h2
    · omega
  · intro h1
    have h2 : ¬ c = true := fun e => by
      obtain ⟨p, hp, h3⟩ := h.1 e
      have := h1 p hp
      omega
    cases c <;> simp_all

set_option maxHeartbeats 1000000 in
theorem covers_yes (v u : Value) (l r : List Ref) (w : World) (h : IsRefs w v l) (k : IsRefs w u r) (hl : Valid l) (hr : Valid r) :
    Calls Try.prog 7 #[v, u] w fun e w' => (∃ c, e = .returned (.tuple #[.bool c, .nilIface]) ∧ Covering l r c) ∧ Below w.heap.size w w' := by
  have hmf : ∀ (fn : Fn) (first cap : Array Value) (w : World), (Instr.makeFunc fn first cap).run Try.prog w = .ok (.func fn first cap) w := fun _ _ _ _ => rfl
  go_enter Try.func7, Try.ntmps7
  go_wp2_with fail
  refine (both_yes v u l r _ h k hl hr).mono ?_
  rintro e w1 ⟨rfl, hb1⟩
  go_wp2_with fail
  refine (seqs_any v l _ (h.below hb1) hl).mono ?_
  rintro e w2 ⟨rfl, hmap, hb2⟩
  have B2 := hb1.trans (hb2.mono hb1.size)
  have X2 : Below w2.heap.size w2 (w2.alloc (.cells #[.map (some w1.heap.size)] 38)) := (Below.refl _ _).alloc (Nat.le_refl _) _
  have hI := contains_any u w2.heap.size w1.heap.size l.length (mx l) r (w2.alloc (.cells #[.map (some w1.heap.size)] 38)) ((k.below B2).below X2) hr (by simp) (by simp) (map_below hmap X2)
  clear hmap X2
  go_wp2_with fail
  refine hI.mono ?_
  rintro e w3 ⟨⟨c, rfl, hc⟩, hb3⟩
  have HC : Hid (Covering l r (!c)) := covering_of hr hc
  clear hc
  go_wp2
  go_ret2
  exact ⟨⟨_, rfl, HC.out⟩, (B2.alloc B2.size _).trans (hb3.mono (by have := B2.size; simp; omega))⟩
end Go.Proofs.Ytgiggobpbddlbaa
