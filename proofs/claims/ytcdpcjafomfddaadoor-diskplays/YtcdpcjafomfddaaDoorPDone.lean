/-
  What is proved: booklaw3.done is true, and leaves both disks alike.
  Conditions: as each theorem says.
-/
import Derived.Test.YtcdpcjafomfddaaDoorPPair
namespace Go.Proofs.YtcdpcjafomfddaaDoor
open Go.RowKit Go.Maps Go.Sort Go.Shelf

/-- Both disks side by side. -/
structure Both (lo : Nat) (w : World) (p k : Nat) (m : Nat) (n st2 : Int) (D N Y : List (Tx × Nat)) (T : Nat → Prop) : Prop where
  d : DkS (fun b => lo ≤ b ∧ ¬ T b) w p n st2 D N Y
  r : RkD T w k n st2 D N Y
  t : ∀ b, T b → lo ≤ b ∧ b < w.heap.size
  lo : lo ≤ w.heap.size
  z : Sz m n D N Y

def Bt (lo : Nat) (w : World) (p k : Nat) (m : Nat) : Prop := ∃ n st2 D N Y T, Both lo w p k m n st2 D N Y T

theorem Bt.keep {lo p k m : Nat} {w w' : World} (h : Bt lo w p k m) (hb : Below w.heap.size w w') : Bt lo w' p k m := by
  obtain ⟨n, st2, D, N, Y, T, h1, h2, h3, h4, h5⟩ := h
  exact ⟨n, st2, D, N, Y, T, h1.keep hb, h2.keep hb, fun b hT => ⟨(h3 b hT).1, Nat.lt_of_lt_of_le (h3 b hT).2 hb.size⟩, Nat.le_trans h4 hb.size, h5⟩

theorem DkS.mono {S T : Nat → Prop} {w : World} {p : Nat} {n st2 : Int} {D N Y : List (Tx × Nat)} (h : DkS S w p n st2 D N Y) (hT : ∀ k, S k → k < w.heap.size → T k) : DkS T w p n st2 D N Y := by
  obtain ⟨fb, sb, F, Z, st, G, i, h1, h2⟩ := h
  exact ⟨fb, sb, F, Z, st, G, i, h1.mono hT, h2⟩
theorem DkS.stay {S : Nat → Prop} {w w' : World} {p : Nat} {n st2 : Int} {D N Y : List (Tx × Nat)} (h : DkS S w p n st2 D N Y) (hk : ∀ k, S k → k < w.heap.size → w'.heap[k]? = w.heap[k]?) : DkS S w' p n st2 D N Y := by
  obtain ⟨fb, sb, F, Z, st, G, i, h1, h2⟩ := h
  exact ⟨fb, sb, F, Z, st, G, i, h1.keep hk, h2⟩
theorem RkD.mono {T U : Nat → Prop} {w : World} {k : Nat} {n st2 : Int} {D N Y : List (Tx × Nat)} (h : RkD T w k n st2 D N Y) (hU : ∀ k, T k → k < w.heap.size → U k) : RkD U w k n st2 D N Y := by
  obtain ⟨fs, h1, h2⟩ := h
  exact ⟨fs, h1, h2.mono hU⟩
theorem RkD.stay {T : Nat → Prop} {w w' : World} {k : Nat} {n st2 : Int} {D N Y : List (Tx × Nat)} (h : RkD T w k n st2 D N Y) (hk : ∀ k, T k → k < w.heap.size → w'.heap[k]? = w.heap[k]?) : RkD T w' k n st2 D N Y := by
  obtain ⟨fs, h1, h2⟩ := h
  exact ⟨fs, h1, h2.keep hk⟩

abbrev wBox (k0 : Int) (s t : Tx) (a : Option Addr) (m c : Nat) (k : Int) : Obj := .cells #[.int .i64 k0, .string ⟨s.toArray⟩, .string ⟨t.toArray⟩, .slice a m c, .int .i64 k] 36

set_option maxRecDepth 100000 in
set_option maxHeartbeats 1000000 in
theorem frame {lo p k m : Nat} {wo w : World} {n st2 : Int} {D N Y : List (Tx × Nat)} {T : Nat → Prop} {f : FuncId} {args : Array Value} {r : Int → Value} {P : Int → Prop} {k0 kk : Int} {s t l : Tx} {a : Option Addr} {c : Nat} (hb : Both lo wo p k m n st2 D N Y T) (hw : Below wo.heap.size wo w)
    (h2 : Both2 f args r P k0 s t a c l kk p k m n st2 D N Y) (hv : ArgB w (.slice a l.length c) l) (ha : l ≠ [] → ∀ b o, a = some ⟨b, o, none⟩ → b < lo) :
    ∃ E, P E ∧ Calls Tryd.prog f args (w.alloc (wBox k0 s t a l.length c kk)) fun e w2 => e = .returned (r E) ∧ w2.heap[w.heap.size]? = some (wBox k0 s t a l.length c kk) ∧
      Calls Tryd.prog 22 #[pV k, wV k0 s t a l.length c kk] w2 fun e w4 => e = .returned (.int .i64 E) ∧ Bt lo w4 p k (m + 1) ∧ Below lo w w4 ∧ ∀ b, wo.heap.size ≤ b → b < w.heap.size → w4.heap[b]? = w.heap[b]? := by
  obtain ⟨E, n', st2', D', N', Y', ⟨hP, hz⟩, hA, hB⟩ := h2
  obtain ⟨bd, br, bt, blo, bz⟩ := hb
  have hws := hw.size
  have b1 : Below w.heap.size w (w.alloc (wBox k0 s t a l.length c kk)) := (Below.refl _ _).alloc (Nat.le_refl _) _
  have s1 : (w.alloc (wBox k0 s t a l.length c kk)).heap.size = w.heap.size + 1 := by simp
  have x1 : (w.alloc (wBox k0 s t a l.length c kk)).heap[w.heap.size]? = some (wBox k0 s t a l.length c kk) := (MapKept.heap_alloc _ _).1
  generalize w.alloc (wBox k0 s t a l.length c kk) = w1 at *
  have hv1 : ArgB w1 (.slice a l.length c) l := ⟨hv.1.below b1, hv.2⟩
  have bo : Below wo.heap.size wo w1 := hw.trans (b1.mono hws)
  refine ⟨E, hP, (hA (fun b => (lo ≤ b ∧ ¬ T b) ∧ (b < wo.heap.size ∨ w1.heap.size ≤ b)) w1 (fun b hb => ⟨⟨by omega, fun e => by have := (bt b e).2; omega⟩, Or.inr hb⟩) ((bd.mono (fun b hS hlt => ⟨hS, Or.inl hlt⟩)).keep bo) hv1).mono ?_⟩
  rintro e w2 ⟨rfl, kp, dk2⟩
  have hsz := kp.size
  have bel : Below lo w1 w2 := kp.below (by omega) (fun b hS => hS.1.1)
  have bel0 : Below lo w w2 := (b1.mono (by omega)).trans bel
  have mid2 : ∀ b, wo.heap.size ≤ b → b < w1.heap.size → w2.heap[b]? = w1.heap[b]? := fun b hb hlt => kp.block b hlt (fun e => by have := e.2; omega)
  refine ⟨rfl, by rw [mid2 _ hws (by omega)]; exact x1, ?_⟩
  have rk2 : RkD (fun b => T b ∨ w2.heap.size ≤ b) w2 k n st2 D N Y := ((br.keep bo).stay (fun b hT hlt => kp.block b hlt (fun e => e.1.2 hT))).mono (fun b hT _ => Or.inl hT)
  have hv2 : ArgB w2 (.slice a l.length c) l := ⟨isBytes_kp hv1.1 kp (Below.refl _ _) (fun hl b o e hS => by have := ha hl b o e; have := hS.1.1; omega), hv.2⟩
  refine (hB _ w2 (fun b hb => Or.inr hb) rk2 hv2 (fun hl b o e hT => ?_)).mono ?_
  · have := ha hl b o e
    rcases hT with hT | hT
    · have := (bt b hT).1; omega
    · omega
  · rintro e w4 ⟨rfl, kp4, rk4⟩
    have hsz4 := kp4.size
    have bel4 : Below lo w2 w4 := kp4.below (by omega) (fun b hT => by
      rcases hT with hT | hT
      · exact (bt b hT).1
      · omega)
    refine ⟨rfl, ⟨n', st2', D', N', Y', fun b => (T b ∨ w2.heap.size ≤ b) ∧ b < w4.heap.size, ?_, rk4.mono (fun b hT hlt => ⟨hT, hlt⟩), fun b hT => ?_, by omega, hz⟩, bel0.trans bel4, fun b hb hlt => ?_⟩
    · refine ((dk2.mono (T := fun b => ((lo ≤ b ∧ ¬ T b) ∧ (b < wo.heap.size ∨ w1.heap.size ≤ b)) ∧ b < w2.heap.size) (fun b hS hlt => ⟨hS, hlt⟩)).stay (fun b hS hlt => kp4.block b hlt (fun e => ?_))).mono (fun b hS _ => ⟨hS.1.1.1, fun e => ?_⟩)
      · rcases e with e | e
        · exact hS.1.1.2 e
        · have := hS.2; omega
      · rcases e.1 with e | e
        · exact hS.1.1.2 e
        · have := hS.2; omega
    · refine ⟨?_, hT.2⟩
      rcases hT.1 with hT | hT
      · exact (bt b hT).1
      · omega
    · rw [kp4.block b (by omega) (fun e => by
        rcases e with e | e
        · have := (bt b e).2; omega
        · omega), mid2 b hb (by omega), b1.block b hlt]

theorem et_lo {lo : Nat} {w w' : World} (h : Et w) (h0 : 0 < lo) (hb : Below lo w w') : Et w' := (hb.cell (p := ⟨0, 0, none⟩) h0).trans h

theorem errorE (E : Int) (w : World) (h : Et w) : Calls Tryd.prog 13 #[errV E, .int .i64 E] w fun e w' => e = .returned (.bool true) ∧ Below w.heap.size w w' := by
  by_cases h0 : E = 0
  · subst h0; rw [errV0]; exact error_nil w
  · rw [errVn h0]; exact error_errno E w h

def DoneP (lo : Nat) (wo w : World) (p k m : Nat) (e : Ending) (w' : World) : Prop := e = .returned (.bool true) ∧ Bt lo w' p k (m + 1) ∧ Below lo w w' ∧ ∀ b, wo.heap.size ≤ b → b < w.heap.size → w'.heap[b]? = w.heap[b]?


set_option maxRecDepth 100000 in
set_option maxHeartbeats 4000000 in
theorem done_1 {lo p k m : Nat} {wo w : World} {n st2 : Int} {D N Y : List (Tx × Nat)} {T : Nat → Prop} (s t : Tx) (a : Option Addr) (c : Nat) (l : Tx) (kk : Int) (hk : I64 kk) (hs : T64 s) (ht : T64 t) (hm : m ≤ 90) (hb : Both lo wo p k m n st2 D N Y T) (hw : Below wo.heap.size wo w) (hv : ArgB w (.slice a l.length c) l) (ha : l ≠ [] → ∀ b o, a = some ⟨b, o, none⟩ → b < lo) (he : Et w) (h0 : 0 < lo) :
    Calls Tryd.prog 5 #[.pointer (some ⟨p, 0, none⟩), .pointer (some ⟨k, 0, none⟩), .agg #[.int .i64 1, .string ⟨s.toArray⟩, .string ⟨t.toArray⟩, .slice a l.length c, .int .i64 kk]] w fun e w' => DoneP lo wo w p k m e w' := by
  obtain ⟨E, hP, DC⟩ := frame hb hw (pair_1 s t a c l kk hk hs ht hb.z hm) hv ha
  have HE : Hid (Et w ∧ 0 < lo) := ⟨he, h0⟩
  have ER := errorE E
  unfold wBox pV wV at DC
  clear hb hw hv ha he h0 hk hs ht hm hP
  generalize l.length = ll at *
  obtain ⟨post, hpost⟩ : ∃ post, post = fun e w' => DoneP lo wo w p k m e w' := ⟨_, rfl⟩
  have HPO : Hid (post = fun e w' => DoneP lo wo w p k m e w') := hpost
  rw [← hpost]
  clear hpost
  have HX : Hid (w.heap.size = w.heap.size + 0) := (rfl : w.heap.size = w.heap.size)
  go_enter Tryd.func5, Tryd.ntmps5
  go_wp2_with (first
    | (go_at_call 14; refine DC.mono ?_; rintro e w2 ⟨rfl, hbx, DO⟩; clear DC
       have c0 : w2.cell? ⟨w.heap.size, 0, none⟩ = some (.int .i64 1) := Lib.cell_of_heap hbx 0
       have c1 : w2.cell? ⟨w.heap.size, 1, none⟩ = some (.string ⟨s.toArray⟩) := Lib.cell_of_heap hbx 1
       have c2 : w2.cell? ⟨w.heap.size, 2, none⟩ = some (.string ⟨t.toArray⟩) := Lib.cell_of_heap hbx 2
       have c3 : w2.cell? ⟨w.heap.size, 3, none⟩ = some (.slice a ll c) := Lib.cell_of_heap hbx 3
       have c4 : w2.cell? ⟨w.heap.size, 4, none⟩ = some (.int .i64 kk) := Lib.cell_of_heap hbx 4
       clear hbx)
    | (go_at_call 22; refine DO.mono ?_; rintro e w4 ⟨rfl, hbt0, hbl0, hmid0⟩; clear DO c0 c1 c2 c3 c4
       have hbt : Hid (Bt lo w4 p k (m + 1)) := hbt0
       have hbl : Hid (Below lo w w4) := hbl0
       have hmid : Hid (w.heap.size ≤ w4.heap.size ∧ ∀ b, wo.heap.size ≤ b → b < w.heap.size → w4.heap[b]? = w.heap[b]?) := ⟨hbl0.size, hmid0⟩
       clear hbt0 hbl0 hmid0)
    | (go_at_call 13; refine (ER w4 (et_lo HE.out.1 HE.out.2 hbl.out)).mono ?_; rintro e w5 ⟨rfl, hb5⟩
       have HEND : Hid (post (.returned (.bool true)) w5) := by
         show post _ _
         rw [HPO.out]
         exact ⟨rfl, hbt.out.keep hb5, hbl.out.trans (hb5.mono (by obtain ⟨_, _, _, _, _, _, q⟩ := hbt.out; exact q.lo)), fun b hb hlt => (hb5.block b (Nat.lt_of_lt_of_le hlt hmid.out.1)).trans (hmid.out.2 b hb hlt)⟩
       clear hb5))
  first | exact HEND.out | go_ret; exact HEND.out

set_option maxRecDepth 100000 in
set_option maxHeartbeats 4000000 in
theorem done_2 {lo p k m : Nat} {wo w : World} {n st2 : Int} {D N Y : List (Tx × Nat)} {T : Nat → Prop} (s t : Tx) (a : Option Addr) (c : Nat) (l : Tx) (kk : Int) (hk : I64 kk) (hs : T64 s) (ht : T64 t) (hm : m ≤ 90) (hb : Both lo wo p k m n st2 D N Y T) (hw : Below wo.heap.size wo w) (hv : ArgB w (.slice a l.length c) l) (ha : l ≠ [] → ∀ b o, a = some ⟨b, o, none⟩ → b < lo) (he : Et w) (h0 : 0 < lo) :
    Calls Tryd.prog 5 #[.pointer (some ⟨p, 0, none⟩), .pointer (some ⟨k, 0, none⟩), .agg #[.int .i64 2, .string ⟨s.toArray⟩, .string ⟨t.toArray⟩, .slice a l.length c, .int .i64 kk]] w fun e w' => DoneP lo wo w p k m e w' := by
  obtain ⟨E, hP, DC⟩ := frame hb hw (pair_2 s t a c l kk hk hs ht hb.z hm) hv ha
  have HE : Hid (Et w ∧ 0 < lo) := ⟨he, h0⟩
  have ER := errorE E
  unfold wBox pV wV at DC
  clear hb hw hv ha he h0 hk hs ht hm hP
  generalize l.length = ll at *
  obtain ⟨post, hpost⟩ : ∃ post, post = fun e w' => DoneP lo wo w p k m e w' := ⟨_, rfl⟩
  have HPO : Hid (post = fun e w' => DoneP lo wo w p k m e w') := hpost
  rw [← hpost]
  clear hpost
  have HX : Hid (w.heap.size = w.heap.size + 0) := (rfl : w.heap.size = w.heap.size)
  go_enter Tryd.func5, Tryd.ntmps5
  go_wp2_with (first
    | (go_at_call 15; refine DC.mono ?_; rintro e w2 ⟨rfl, hbx, DO⟩; clear DC
       have c0 : w2.cell? ⟨w.heap.size, 0, none⟩ = some (.int .i64 2) := Lib.cell_of_heap hbx 0
       have c1 : w2.cell? ⟨w.heap.size, 1, none⟩ = some (.string ⟨s.toArray⟩) := Lib.cell_of_heap hbx 1
       have c2 : w2.cell? ⟨w.heap.size, 2, none⟩ = some (.string ⟨t.toArray⟩) := Lib.cell_of_heap hbx 2
       have c3 : w2.cell? ⟨w.heap.size, 3, none⟩ = some (.slice a ll c) := Lib.cell_of_heap hbx 3
       have c4 : w2.cell? ⟨w.heap.size, 4, none⟩ = some (.int .i64 kk) := Lib.cell_of_heap hbx 4
       clear hbx)
    | (go_at_call 22; refine DO.mono ?_; rintro e w4 ⟨rfl, hbt0, hbl0, hmid0⟩; clear DO c0 c1 c2 c3 c4
       have hbt : Hid (Bt lo w4 p k (m + 1)) := hbt0
       have hbl : Hid (Below lo w w4) := hbl0
       have hmid : Hid (w.heap.size ≤ w4.heap.size ∧ ∀ b, wo.heap.size ≤ b → b < w.heap.size → w4.heap[b]? = w.heap[b]?) := ⟨hbl0.size, hmid0⟩
       clear hbt0 hbl0 hmid0)
    | (go_at_call 13; refine (ER w4 (et_lo HE.out.1 HE.out.2 hbl.out)).mono ?_; rintro e w5 ⟨rfl, hb5⟩
       have HEND : Hid (post (.returned (.bool true)) w5) := by
         show post _ _
         rw [HPO.out]
         exact ⟨rfl, hbt.out.keep hb5, hbl.out.trans (hb5.mono (by obtain ⟨_, _, _, _, _, _, q⟩ := hbt.out; exact q.lo)), fun b hb hlt => (hb5.block b (Nat.lt_of_lt_of_le hlt hmid.out.1)).trans (hmid.out.2 b hb hlt)⟩
       clear hb5))
  first | exact HEND.out | go_ret; exact HEND.out

set_option maxRecDepth 100000 in
set_option maxHeartbeats 4000000 in
theorem done_3 {lo p k m : Nat} {wo w : World} {n st2 : Int} {D N Y : List (Tx × Nat)} {T : Nat → Prop} (s t : Tx) (a : Option Addr) (c : Nat) (l : Tx) (kk : Int) (hk : I64 kk) (hs : T64 s) (ht : T64 t) (hm : m ≤ 90) (hb : Both lo wo p k m n st2 D N Y T) (hw : Below wo.heap.size wo w) (hv : ArgB w (.slice a l.length c) l) (ha : l ≠ [] → ∀ b o, a = some ⟨b, o, none⟩ → b < lo) (he : Et w) (h0 : 0 < lo) :
    Calls Tryd.prog 5 #[.pointer (some ⟨p, 0, none⟩), .pointer (some ⟨k, 0, none⟩), .agg #[.int .i64 3, .string ⟨s.toArray⟩, .string ⟨t.toArray⟩, .slice a l.length c, .int .i64 kk]] w fun e w' => DoneP lo wo w p k m e w' := by
  obtain ⟨E, hP, DC⟩ := frame hb hw (pair_3 s t a c l kk hk hs ht hb.z hm) hv ha
  have HE : Hid (Et w ∧ 0 < lo) := ⟨he, h0⟩
  have ER := errorE E
  unfold wBox pV wV at DC
  clear hb hw hv ha he h0 hk hs ht hm hP
  generalize l.length = ll at *
  obtain ⟨post, hpost⟩ : ∃ post, post = fun e w' => DoneP lo wo w p k m e w' := ⟨_, rfl⟩
  have HPO : Hid (post = fun e w' => DoneP lo wo w p k m e w') := hpost
  rw [← hpost]
  clear hpost
  have HX : Hid (w.heap.size = w.heap.size + 0) := (rfl : w.heap.size = w.heap.size)
  go_enter Tryd.func5, Tryd.ntmps5
  go_wp2_with (first
    | (go_at_call 16; refine DC.mono ?_; rintro e w2 ⟨rfl, hbx, DO⟩; clear DC
       have c0 : w2.cell? ⟨w.heap.size, 0, none⟩ = some (.int .i64 3) := Lib.cell_of_heap hbx 0
       have c1 : w2.cell? ⟨w.heap.size, 1, none⟩ = some (.string ⟨s.toArray⟩) := Lib.cell_of_heap hbx 1
       have c2 : w2.cell? ⟨w.heap.size, 2, none⟩ = some (.string ⟨t.toArray⟩) := Lib.cell_of_heap hbx 2
       have c3 : w2.cell? ⟨w.heap.size, 3, none⟩ = some (.slice a ll c) := Lib.cell_of_heap hbx 3
       have c4 : w2.cell? ⟨w.heap.size, 4, none⟩ = some (.int .i64 kk) := Lib.cell_of_heap hbx 4
       clear hbx)
    | (go_at_call 22; refine DO.mono ?_; rintro e w4 ⟨rfl, hbt0, hbl0, hmid0⟩; clear DO c0 c1 c2 c3 c4
       have hbt : Hid (Bt lo w4 p k (m + 1)) := hbt0
       have hbl : Hid (Below lo w w4) := hbl0
       have hmid : Hid (w.heap.size ≤ w4.heap.size ∧ ∀ b, wo.heap.size ≤ b → b < w.heap.size → w4.heap[b]? = w.heap[b]?) := ⟨hbl0.size, hmid0⟩
       clear hbt0 hbl0 hmid0)
    | (go_at_call 13; refine (ER w4 (et_lo HE.out.1 HE.out.2 hbl.out)).mono ?_; rintro e w5 ⟨rfl, hb5⟩
       have HEND : Hid (post (.returned (.bool true)) w5) := by
         show post _ _
         rw [HPO.out]
         exact ⟨rfl, hbt.out.keep hb5, hbl.out.trans (hb5.mono (by obtain ⟨_, _, _, _, _, _, q⟩ := hbt.out; exact q.lo)), fun b hb hlt => (hb5.block b (Nat.lt_of_lt_of_le hlt hmid.out.1)).trans (hmid.out.2 b hb hlt)⟩
       clear hb5))
  first | exact HEND.out | go_ret; exact HEND.out

set_option maxRecDepth 100000 in
set_option maxHeartbeats 4000000 in
theorem done_4 {lo p k m : Nat} {wo w : World} {n st2 : Int} {D N Y : List (Tx × Nat)} {T : Nat → Prop} (s t : Tx) (a : Option Addr) (c : Nat) (l : Tx) (kk : Int) (hk : I64 kk) (hs : T64 s) (ht : T64 t) (hm : m ≤ 90) (hb : Both lo wo p k m n st2 D N Y T) (hw : Below wo.heap.size wo w) (hv : ArgB w (.slice a l.length c) l) (ha : l ≠ [] → ∀ b o, a = some ⟨b, o, none⟩ → b < lo) (he : Et w) (h0 : 0 < lo) :
    Calls Tryd.prog 5 #[.pointer (some ⟨p, 0, none⟩), .pointer (some ⟨k, 0, none⟩), .agg #[.int .i64 4, .string ⟨s.toArray⟩, .string ⟨t.toArray⟩, .slice a l.length c, .int .i64 kk]] w fun e w' => DoneP lo wo w p k m e w' := by
  obtain ⟨E, hP, DC⟩ := frame hb hw (pair_4 s t a c l kk hk hs ht hb.z hm) hv ha
  have HE : Hid (Et w ∧ 0 < lo) := ⟨he, h0⟩
  have ER := errorE E
  unfold wBox pV wV at DC
  clear hb hw hv ha he h0 hk hs ht hm hP
  generalize l.length = ll at *
  obtain ⟨post, hpost⟩ : ∃ post, post = fun e w' => DoneP lo wo w p k m e w' := ⟨_, rfl⟩
  have HPO : Hid (post = fun e w' => DoneP lo wo w p k m e w') := hpost
  rw [← hpost]
  clear hpost
  have HX : Hid (w.heap.size = w.heap.size + 0) := (rfl : w.heap.size = w.heap.size)
  go_enter Tryd.func5, Tryd.ntmps5
  go_wp2_with (first
    | (go_at_call 17; refine DC.mono ?_; rintro e w2 ⟨rfl, hbx, DO⟩; clear DC
       have c0 : w2.cell? ⟨w.heap.size, 0, none⟩ = some (.int .i64 4) := Lib.cell_of_heap hbx 0
       have c1 : w2.cell? ⟨w.heap.size, 1, none⟩ = some (.string ⟨s.toArray⟩) := Lib.cell_of_heap hbx 1
       have c2 : w2.cell? ⟨w.heap.size, 2, none⟩ = some (.string ⟨t.toArray⟩) := Lib.cell_of_heap hbx 2
       have c3 : w2.cell? ⟨w.heap.size, 3, none⟩ = some (.slice a ll c) := Lib.cell_of_heap hbx 3
       have c4 : w2.cell? ⟨w.heap.size, 4, none⟩ = some (.int .i64 kk) := Lib.cell_of_heap hbx 4
       clear hbx)
    | (go_at_call 22; refine DO.mono ?_; rintro e w4 ⟨rfl, hbt0, hbl0, hmid0⟩; clear DO c0 c1 c2 c3 c4
       have hbt : Hid (Bt lo w4 p k (m + 1)) := hbt0
       have hbl : Hid (Below lo w w4) := hbl0
       have hmid : Hid (w.heap.size ≤ w4.heap.size ∧ ∀ b, wo.heap.size ≤ b → b < w.heap.size → w4.heap[b]? = w.heap[b]?) := ⟨hbl0.size, hmid0⟩
       clear hbt0 hbl0 hmid0)
    | (go_at_call 13; refine (ER w4 (et_lo HE.out.1 HE.out.2 hbl.out)).mono ?_; rintro e w5 ⟨rfl, hb5⟩
       have HEND : Hid (post (.returned (.bool true)) w5) := by
         show post _ _
         rw [HPO.out]
         exact ⟨rfl, hbt.out.keep hb5, hbl.out.trans (hb5.mono (by obtain ⟨_, _, _, _, _, _, q⟩ := hbt.out; exact q.lo)), fun b hb hlt => (hb5.block b (Nat.lt_of_lt_of_le hlt hmid.out.1)).trans (hmid.out.2 b hb hlt)⟩
       clear hb5))
  first | exact HEND.out | go_ret; exact HEND.out

set_option maxRecDepth 100000 in
set_option maxHeartbeats 4000000 in
theorem done_5 {lo p k m : Nat} {wo w : World} {n st2 : Int} {D N Y : List (Tx × Nat)} {T : Nat → Prop} (s t : Tx) (a : Option Addr) (c : Nat) (l : Tx) (kk : Int) (hk : I64 kk) (hs : T64 s) (ht : T64 t) (hm : m ≤ 90) (hb : Both lo wo p k m n st2 D N Y T) (hw : Below wo.heap.size wo w) (hv : ArgB w (.slice a l.length c) l) (ha : l ≠ [] → ∀ b o, a = some ⟨b, o, none⟩ → b < lo) (he : Et w) (h0 : 0 < lo) :
    Calls Tryd.prog 5 #[.pointer (some ⟨p, 0, none⟩), .pointer (some ⟨k, 0, none⟩), .agg #[.int .i64 5, .string ⟨s.toArray⟩, .string ⟨t.toArray⟩, .slice a l.length c, .int .i64 kk]] w fun e w' => DoneP lo wo w p k m e w' := by
  obtain ⟨E, hP, DC⟩ := frame hb hw (pair_5 s t a c l kk hk hs ht hb.z hm) hv ha
  have HE : Hid (Et w ∧ 0 < lo) := ⟨he, h0⟩
  have ER := errorE E
  unfold wBox pV wV at DC
  clear hb hw hv ha he h0 hk hs ht hm hP
  generalize l.length = ll at *
  obtain ⟨post, hpost⟩ : ∃ post, post = fun e w' => DoneP lo wo w p k m e w' := ⟨_, rfl⟩
  have HPO : Hid (post = fun e w' => DoneP lo wo w p k m e w') := hpost
  rw [← hpost]
  clear hpost
  have HX : Hid (w.heap.size = w.heap.size + 0) := (rfl : w.heap.size = w.heap.size)
  go_enter Tryd.func5, Tryd.ntmps5
  go_wp2_with (first
    | (go_at_call 18; refine DC.mono ?_; rintro e w2 ⟨rfl, hbx, DO⟩; clear DC
       have c0 : w2.cell? ⟨w.heap.size, 0, none⟩ = some (.int .i64 5) := Lib.cell_of_heap hbx 0
       have c1 : w2.cell? ⟨w.heap.size, 1, none⟩ = some (.string ⟨s.toArray⟩) := Lib.cell_of_heap hbx 1
       have c2 : w2.cell? ⟨w.heap.size, 2, none⟩ = some (.string ⟨t.toArray⟩) := Lib.cell_of_heap hbx 2
       have c3 : w2.cell? ⟨w.heap.size, 3, none⟩ = some (.slice a ll c) := Lib.cell_of_heap hbx 3
       have c4 : w2.cell? ⟨w.heap.size, 4, none⟩ = some (.int .i64 kk) := Lib.cell_of_heap hbx 4
       clear hbx)
    | (go_at_call 22; refine DO.mono ?_; rintro e w4 ⟨rfl, hbt0, hbl0, hmid0⟩; clear DO c0 c1 c2 c3 c4
       have hbt : Hid (Bt lo w4 p k (m + 1)) := hbt0
       have hbl : Hid (Below lo w w4) := hbl0
       have hmid : Hid (w.heap.size ≤ w4.heap.size ∧ ∀ b, wo.heap.size ≤ b → b < w.heap.size → w4.heap[b]? = w.heap[b]?) := ⟨hbl0.size, hmid0⟩
       clear hbt0 hbl0 hmid0)
    | (go_at_call 13; refine (ER w4 (et_lo HE.out.1 HE.out.2 hbl.out)).mono ?_; rintro e w5 ⟨rfl, hb5⟩
       have HEND : Hid (post (.returned (.bool true)) w5) := by
         show post _ _
         rw [HPO.out]
         exact ⟨rfl, hbt.out.keep hb5, hbl.out.trans (hb5.mono (by obtain ⟨_, _, _, _, _, _, q⟩ := hbt.out; exact q.lo)), fun b hb hlt => (hb5.block b (Nat.lt_of_lt_of_le hlt hmid.out.1)).trans (hmid.out.2 b hb hlt)⟩
       clear hb5))
  first | exact HEND.out | go_ret; exact HEND.out

set_option maxRecDepth 100000 in
set_option maxHeartbeats 4000000 in
theorem done_6 {lo p k m : Nat} {wo w : World} {n st2 : Int} {D N Y : List (Tx × Nat)} {T : Nat → Prop} (s t : Tx) (a : Option Addr) (c : Nat) (l : Tx) (kk : Int) (hk : I64 kk) (hs : T64 s) (ht : T64 t) (hm : m ≤ 90) (hb : Both lo wo p k m n st2 D N Y T) (hw : Below wo.heap.size wo w) (hv : ArgB w (.slice a l.length c) l) (ha : l ≠ [] → ∀ b o, a = some ⟨b, o, none⟩ → b < lo) (he : Et w) (h0 : 0 < lo) :
    Calls Tryd.prog 5 #[.pointer (some ⟨p, 0, none⟩), .pointer (some ⟨k, 0, none⟩), .agg #[.int .i64 6, .string ⟨s.toArray⟩, .string ⟨t.toArray⟩, .slice a l.length c, .int .i64 kk]] w fun e w' => DoneP lo wo w p k m e w' := by
  obtain ⟨E, hP, DC⟩ := frame hb hw (pair_6 s t a c l kk hk hs ht hb.z hm) hv ha
  have HE : Hid (Et w ∧ 0 < lo) := ⟨he, h0⟩
  have ER := errorE E
  unfold wBox pV wV at DC
  clear hb hw hv ha he h0 hk hs ht hm hP
  generalize l.length = ll at *
  obtain ⟨post, hpost⟩ : ∃ post, post = fun e w' => DoneP lo wo w p k m e w' := ⟨_, rfl⟩
  have HPO : Hid (post = fun e w' => DoneP lo wo w p k m e w') := hpost
  rw [← hpost]
  clear hpost
  have HX : Hid (w.heap.size = w.heap.size + 0) := (rfl : w.heap.size = w.heap.size)
  go_enter Tryd.func5, Tryd.ntmps5
  go_wp2_with (first
    | (go_at_call 19; refine DC.mono ?_; rintro e w2 ⟨rfl, hbx, DO⟩; clear DC
       have c0 : w2.cell? ⟨w.heap.size, 0, none⟩ = some (.int .i64 6) := Lib.cell_of_heap hbx 0
       have c1 : w2.cell? ⟨w.heap.size, 1, none⟩ = some (.string ⟨s.toArray⟩) := Lib.cell_of_heap hbx 1
       have c2 : w2.cell? ⟨w.heap.size, 2, none⟩ = some (.string ⟨t.toArray⟩) := Lib.cell_of_heap hbx 2
       have c3 : w2.cell? ⟨w.heap.size, 3, none⟩ = some (.slice a ll c) := Lib.cell_of_heap hbx 3
       have c4 : w2.cell? ⟨w.heap.size, 4, none⟩ = some (.int .i64 kk) := Lib.cell_of_heap hbx 4
       clear hbx)
    | (go_at_call 22; refine DO.mono ?_; rintro e w4 ⟨rfl, hbt0, hbl0, hmid0⟩; clear DO c0 c1 c2 c3 c4
       have hbt : Hid (Bt lo w4 p k (m + 1)) := hbt0
       have hbl : Hid (Below lo w w4) := hbl0
       have hmid : Hid (w.heap.size ≤ w4.heap.size ∧ ∀ b, wo.heap.size ≤ b → b < w.heap.size → w4.heap[b]? = w.heap[b]?) := ⟨hbl0.size, hmid0⟩
       clear hbt0 hbl0 hmid0)
    | (go_at_call 13; refine (ER w4 (et_lo HE.out.1 HE.out.2 hbl.out)).mono ?_; rintro e w5 ⟨rfl, hb5⟩
       have HEND : Hid (post (.returned (.bool true)) w5) := by
         show post _ _
         rw [HPO.out]
         exact ⟨rfl, hbt.out.keep hb5, hbl.out.trans (hb5.mono (by obtain ⟨_, _, _, _, _, _, q⟩ := hbt.out; exact q.lo)), fun b hb hlt => (hb5.block b (Nat.lt_of_lt_of_le hlt hmid.out.1)).trans (hmid.out.2 b hb hlt)⟩
       clear hb5))
  first | exact HEND.out | go_ret; exact HEND.out

set_option maxRecDepth 100000 in
set_option maxHeartbeats 4000000 in
theorem done_7 {lo p k m : Nat} {wo w : World} {n st2 : Int} {D N Y : List (Tx × Nat)} {T : Nat → Prop} (s t : Tx) (a : Option Addr) (c : Nat) (l : Tx) (kk : Int) (hk : I64 kk) (hs : T64 s) (ht : T64 t) (hm : m ≤ 90) (hb : Both lo wo p k m n st2 D N Y T) (hw : Below wo.heap.size wo w) (hv : ArgB w (.slice a l.length c) l) (ha : l ≠ [] → ∀ b o, a = some ⟨b, o, none⟩ → b < lo) (he : Et w) (h0 : 0 < lo) :
    Calls Tryd.prog 5 #[.pointer (some ⟨p, 0, none⟩), .pointer (some ⟨k, 0, none⟩), .agg #[.int .i64 7, .string ⟨s.toArray⟩, .string ⟨t.toArray⟩, .slice a l.length c, .int .i64 kk]] w fun e w' => DoneP lo wo w p k m e w' := by
  obtain ⟨E, hP, DC⟩ := frame hb hw (pair_7 s t a c l kk hk hs ht hb.z hm) hv ha
  subst hP
  have HE : Hid (Et w ∧ 0 < lo) := ⟨he, h0⟩
  unfold wBox pV wV at DC
  clear hb hw hv ha he h0 hk hs ht hm
  generalize l.length = ll at *
  obtain ⟨post, hpost⟩ : ∃ post, post = fun e w' => DoneP lo wo w p k m e w' := ⟨_, rfl⟩
  have HPO : Hid (post = fun e w' => DoneP lo wo w p k m e w') := hpost
  rw [← hpost]
  clear hpost
  have HX : Hid (w.heap.size = w.heap.size + 0) := (rfl : w.heap.size = w.heap.size)
  go_enter Tryd.func5, Tryd.ntmps5
  go_wp2_with (first
    | (go_at_call 20; refine DC.mono ?_; rintro e w2 ⟨rfl, hbx, DO⟩; clear DC
       have c0 : w2.cell? ⟨w.heap.size, 0, none⟩ = some (.int .i64 7) := Lib.cell_of_heap hbx 0
       have c1 : w2.cell? ⟨w.heap.size, 1, none⟩ = some (.string ⟨s.toArray⟩) := Lib.cell_of_heap hbx 1
       have c2 : w2.cell? ⟨w.heap.size, 2, none⟩ = some (.string ⟨t.toArray⟩) := Lib.cell_of_heap hbx 2
       have c3 : w2.cell? ⟨w.heap.size, 3, none⟩ = some (.slice a ll c) := Lib.cell_of_heap hbx 3
       have c4 : w2.cell? ⟨w.heap.size, 4, none⟩ = some (.int .i64 kk) := Lib.cell_of_heap hbx 4
       clear hbx)
    | (go_at_call 22; refine DO.mono ?_; rintro e w4 ⟨rfl, hbt0, hbl0, hmid0⟩; clear DO c0 c1 c2 c3 c4
       have hbt : Hid (Bt lo w4 p k (m + 1)) := hbt0
       have hbl : Hid (Below lo w w4) := hbl0
       have hmid : Hid (w.heap.size ≤ w4.heap.size ∧ ∀ b, wo.heap.size ≤ b → b < w.heap.size → w4.heap[b]? = w.heap[b]?) := ⟨hbl0.size, hmid0⟩
       clear hbt0 hbl0 hmid0)
    | (go_at_call 13; refine (error_nil w4).mono ?_; rintro e w5 ⟨rfl, hb5⟩
       have HEND : Hid (post (.returned (.bool true)) w5) := by
         show post _ _
         rw [HPO.out]
         exact ⟨rfl, hbt.out.keep hb5, hbl.out.trans (hb5.mono (by obtain ⟨_, _, _, _, _, _, q⟩ := hbt.out; exact q.lo)), fun b hb hlt => (hb5.block b (Nat.lt_of_lt_of_le hlt hmid.out.1)).trans (hmid.out.2 b hb hlt)⟩
       clear hb5))
  first | exact HEND.out | go_ret; exact HEND.out

set_option maxRecDepth 100000 in
set_option maxHeartbeats 4000000 in
theorem done_8 {lo p k m : Nat} {wo w : World} {n st2 : Int} {D N Y : List (Tx × Nat)} {T : Nat → Prop} (s t : Tx) (a : Option Addr) (c : Nat) (l : Tx) (kk : Int) (hk : I64 kk) (hs : T64 s) (ht : T64 t) (hm : m ≤ 90) (hb : Both lo wo p k m n st2 D N Y T) (hw : Below wo.heap.size wo w) (hv : ArgB w (.slice a l.length c) l) (ha : l ≠ [] → ∀ b o, a = some ⟨b, o, none⟩ → b < lo) (he : Et w) (h0 : 0 < lo) :
    Calls Tryd.prog 5 #[.pointer (some ⟨p, 0, none⟩), .pointer (some ⟨k, 0, none⟩), .agg #[.int .i64 8, .string ⟨s.toArray⟩, .string ⟨t.toArray⟩, .slice a l.length c, .int .i64 kk]] w fun e w' => DoneP lo wo w p k m e w' := by
  obtain ⟨E, hP, DC⟩ := frame hb hw (pair_8 s t a c l kk hk hs ht hb.z hm) hv ha
  subst hP
  have HE : Hid (Et w ∧ 0 < lo) := ⟨he, h0⟩
  unfold wBox pV wV at DC
  clear hb hw hv ha he h0 hk hs ht hm
  generalize l.length = ll at *
  obtain ⟨post, hpost⟩ : ∃ post, post = fun e w' => DoneP lo wo w p k m e w' := ⟨_, rfl⟩
  have HPO : Hid (post = fun e w' => DoneP lo wo w p k m e w') := hpost
  rw [← hpost]
  clear hpost
  have HX : Hid (w.heap.size = w.heap.size + 0) := (rfl : w.heap.size = w.heap.size)
  go_enter Tryd.func5, Tryd.ntmps5
  go_wp2_with (first
    | (go_at_call 21; refine DC.mono ?_; rintro e w2 ⟨rfl, hbx, DO⟩; clear DC
       have c0 : w2.cell? ⟨w.heap.size, 0, none⟩ = some (.int .i64 8) := Lib.cell_of_heap hbx 0
       have c1 : w2.cell? ⟨w.heap.size, 1, none⟩ = some (.string ⟨s.toArray⟩) := Lib.cell_of_heap hbx 1
       have c2 : w2.cell? ⟨w.heap.size, 2, none⟩ = some (.string ⟨t.toArray⟩) := Lib.cell_of_heap hbx 2
       have c3 : w2.cell? ⟨w.heap.size, 3, none⟩ = some (.slice a ll c) := Lib.cell_of_heap hbx 3
       have c4 : w2.cell? ⟨w.heap.size, 4, none⟩ = some (.int .i64 kk) := Lib.cell_of_heap hbx 4
       clear hbx)
    | (go_at_call 22; refine DO.mono ?_; rintro e w4 ⟨rfl, hbt0, hbl0, hmid0⟩; clear DO c0 c1 c2 c3 c4
       have hbt : Hid (Bt lo w4 p k (m + 1)) := hbt0
       have hbl : Hid (Below lo w w4) := hbl0
       have hmid : Hid (w.heap.size ≤ w4.heap.size ∧ ∀ b, wo.heap.size ≤ b → b < w.heap.size → w4.heap[b]? = w.heap[b]?) := ⟨hbl0.size, hmid0⟩
       clear hbt0 hbl0 hmid0)
    | (go_at_call 13; refine (error_nil w4).mono ?_; rintro e w5 ⟨rfl, hb5⟩
       have HEND : Hid (post (.returned (.bool true)) w5) := by
         show post _ _
         rw [HPO.out]
         exact ⟨rfl, hbt.out.keep hb5, hbl.out.trans (hb5.mono (by obtain ⟨_, _, _, _, _, _, q⟩ := hbt.out; exact q.lo)), fun b hb hlt => (hb5.block b (Nat.lt_of_lt_of_le hlt hmid.out.1)).trans (hmid.out.2 b hb hlt)⟩
       clear hb5))
  first | exact HEND.out | go_ret; exact HEND.out
end Go.Proofs.YtcdpcjafomfddaaDoor
