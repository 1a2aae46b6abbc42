/-
  What is proved: what a disk's Crash leaves.
  Conditions: as each theorem says.
-/
import Derived.Test.YtcdpcjafomfddaaDoorKNames
namespace Go.Proofs.YtcdpcjafomfddaaDoor
open Go.RowKit Go.Maps Go.Sort Go.Shelf

/-- A name, the file that it was safe for, the file that is made of it. -/
abbrev Rst : Type := Tx × Nat × Fi
def nmF (E : List Rst) : List (Tx × Nat) := E.map fun q => (q.1, q.2.2.g)
def nwF (E : List Rst) : List Fi := E.map fun q => q.2.2

/-- What each is made of. -/
def Made (Z : List (Tx × Nat)) (G : List Fi) (k : Int) (E : List Rst) : Prop := ∀ q ∈ E, (q.1, q.2.1) ∈ Z ∧ ∀ x ∈ G, x.g = q.2.1 → q.2.2.bs = x.bs.take (lft k x) ∧ q.2.2.sf = lft k x

/-- Between two rounds. -/
structure CrI (S : Nat → Prop) (w0 : World) (k : Int) (Z : List (Tx × Nat)) (G : List Fi) (E : List Rst) (w : World) : Prop where
  map : MapS w w0.heap.size (ptrs (nmF E))
  made : Made Z G k E
  fi : ∀ x ∈ nwF E, FileAt S w x ∧ w0.heap.size + 2 ≤ x.g ∧ ∀ b, x.v.ownBlock = some b → w0.heap.size + 2 ≤ b
  ap : (nwF E).Pairwise Apart
  below : Below w0.heap.size w0 w
  size : w0.heap.size + 2 ≤ w.heap.size

theorem CrI.keep {S : Nat → Prop} {w0 : World} {k : Int} {Z : List (Tx × Nat)} {G : List Fi} {E : List Rst} {w w' : World} (h : CrI S w0 k Z G E w) (hs : w.heap.size ≤ w'.heap.size) (ho : w'.os = w.os ∧ w'.tape = w.tape ∧ w'.output = w.output) (hb : ∀ j, j < w.heap.size → j ≠ w0.heap.size + 1 → w'.heap[j]? = w.heap[j]?) : CrI S w0 k Z G E w' :=
  ⟨h.map.keep (hb _ h.map.lt (by omega)), h.made, fun x hx => have q := h.fi x hx; ⟨q.1.but (hb _ q.1.lt (by have := q.2.1; omega)) (fun b e => hb b (q.1.vlt e) (by have := q.2.2 b e; omega)), q.2⟩, h.ap,
    ⟨ho.1.trans h.below.os, ho.2.1.trans h.below.tape, ho.2.2.trans h.below.output, Nat.le_trans h.below.size hs, fun j hj => (hb j (by have := h.size; omega) (by omega)).trans (h.below.block j hj)⟩, Nat.le_trans h.size hs⟩

theorem CrI.keepB {S : Nat → Prop} {w0 : World} {k : Int} {Z : List (Tx × Nat)} {G : List Fi} {E : List Rst} {w w' : World} (h : CrI S w0 k Z G E w) (hb : Below w.heap.size w w') : CrI S w0 k Z G E w' :=
  h.keep hb.size ⟨hb.os, hb.tape, hb.output⟩ (fun j hj _ => hb.block j hj)

/-- One more. -/
theorem CrI.step {S : Nat → Prop} {w0 : World} {k : Int} {Z : List (Tx × Nat)} {G : List Fi} {E : List Rst} {w w1 w2 : World} (h : CrI S w0 k Z G E w) {s : Tx} {g : Nat} {y : Fi} (hb : Below w.heap.size w w1) (hy : FileAt S w1 y) (hg : w.heap.size ≤ y.g) (hv : ∀ b, y.v.ownBlock = some b → w.heap.size ≤ b)
    (hz : (s, g) ∈ Z) (hm : ∀ x ∈ G, x.g = g → y.bs = x.bs.take (lft k x) ∧ y.sf = lft k x) (hn : s ∉ E.map (·.1)) (ht : w1.mapTurned w2 w0.heap.size) (hp : MapS w2 w0.heap.size (putL (ptrs (nmF E)) s (ptrV y.g))) : CrI S w0 k Z G (E ++ [(s, g, y)]) w2 := by
  have h1 := h.keepB hb
  have ho := fun j (hj : j ≠ w0.heap.size) => turned_other ht hj
  have hsz : w2.heap.size = w1.heap.size ∧ w2.os = w1.os ∧ w2.tape = w1.tape ∧ w2.output = w1.output := by
    obtain ⟨_, _, _, _, _, rfl⟩ := ht
    exact ⟨by simp [ChangeMaps.setBlock], rfl, rfl, rfl⟩
  have hfk : fk (nmF E) s = none := by
    unfold fk nmF
    rw [Option.map_eq_none_iff, List.find?_eq_none]
    intro q hq e
    obtain ⟨z, hz', rfl⟩ := List.mem_map.1 hq
    exact hn (List.mem_map.2 ⟨z, hz', by simpa using e⟩)
  have hw := h.size
  refine ⟨?_, ?_, ?_, ?_, ⟨hsz.2.1.trans h1.below.os, hsz.2.2.1.trans h1.below.tape, hsz.2.2.2.trans h1.below.output, by rw [hsz.1]; exact h1.below.size, fun j hj => (ho j (by omega)).trans (h1.below.block j hj)⟩, by rw [hsz.1]; exact h1.size⟩
  · rw [ptrs_put _ _ _ hfk] at hp
    simpa [nmF] using hp
  · intro q hq
    rcases List.mem_append.1 hq with hq | hq
    · exact h.made q hq
    · rw [List.mem_singleton.1 hq]; exact ⟨hz, hm⟩
  · intro x hx
    unfold nwF at hx
    rw [List.map_append] at hx
    rcases List.mem_append.1 hx with hx | hx
    · have q := h1.fi x hx
      exact ⟨q.1.but (ho _ (by have := q.2.1; omega)) (fun b e => ho b (by have := q.2.2 b e; omega)), q.2⟩
    · obtain rfl : x = y := by simpa using hx
      exact ⟨hy.but (ho _ (by omega)) (fun b e => ho b (by have := hv b e; omega)), by omega, fun b e => by have := hv b e; omega⟩
  · unfold nwF
    rw [List.map_append, List.pairwise_append]
    refine ⟨h.ap, by simp, fun x hx z hz' => ?_⟩
    obtain rfl : z = y := by simpa using hz'
    have q := h.fi x hx
    exact ⟨by have := q.1.lt; omega, fun b e e2 => by have := q.1.vlt e; have := hv b e2; omega⟩

def CrashP (S : Nat → Prop) (w : World) (p : Nat) (Z : List (Tx × Nat)) (k : Int) (G : List Fi) (e : Ending) (w' : World) : Prop :=
  e = .returned (.tuple #[]) ∧ Kp S w w' ∧ ∃ fb sb E, Dk S w' p fb sb (nmF E) (nmF E) 0 (-1) (nwF E) ∧ (E.map (·.1)).Perm (Z.map (·.1)) ∧ Made Z G k E

def fin4 (w : World) (p m m2 : Nat) : World := (((w.setCell ⟨p, 0, none⟩ (.map (some m))).setCell ⟨p, 1, none⟩ (.map (some m2))).setCell ⟨p, 2, none⟩ (.int .i64 0)).setCell ⟨p, 3, none⟩ (.int .i64 (-1))

theorem set4 {w : World} {p : Nat} {a b c d : Value} {T : TypeId} (h : w.heap[p]? = some (.cells #[a, b, c, d] T)) (m m2 : Nat) :
    (w.setCell ⟨p, 0, none⟩ (.map (some m))).heap[p]? = some (.cells #[.map (some m), b, c, d] T) ∧ ((w.setCell ⟨p, 0, none⟩ (.map (some m))).setCell ⟨p, 1, none⟩ (.map (some m2))).heap[p]? = some (.cells #[.map (some m), .map (some m2), c, d] T) ∧
    (((w.setCell ⟨p, 0, none⟩ (.map (some m))).setCell ⟨p, 1, none⟩ (.map (some m2))).setCell ⟨p, 2, none⟩ (.int .i64 0)).heap[p]? = some (.cells #[.map (some m), .map (some m2), .int .i64 0, d] T) ∧ (fin4 w p m m2).heap[p]? = some (.cells #[.map (some m), .map (some m2), .int .i64 0, .int .i64 (-1)] T) := by
  have h1 := heap_setCell_same w p 0 _ _ (.map (some m)) h
  have h2 := heap_setCell_same _ p 1 _ _ (.map (some m2)) h1
  have h3 := heap_setCell_same _ p 2 _ _ (.int .i64 0) h2
  have h4 := heap_setCell_same _ p 3 _ _ (.int .i64 (-1)) h3
  exact ⟨h1, h2, h3, h4⟩

theorem CrI.fin {S : Nat → Prop} {w0 : World} {k : Int} {F Z : List (Tx × Nat)} {n st : Int} {G : List Fi} {E : List Rst} {w w3 : World} {p fb sb : Nat} (h : CrI S w0 k Z G E w) (hd : Dk S w0 p fb sb F Z n st G) (hS : ∀ k, w0.heap.size ≤ k → S k) (hb : Below w.heap.size w w3) (hm : MapS w3 w.heap.size (ptrs (nmF E)))
    (hp : (E.map (·.1)).Perm (Z.map (·.1))) : CrashP S w0 p Z k G (.returned (.tuple #[])) (fin4 w3 p w0.heap.size w.heap.size) := by
  have h3 := h.keepB hb
  have d3 := hd.below h3.below
  have ho : ∀ j, j ≠ p → (fin4 w3 p w0.heap.size w.heap.size).heap[j]? = w3.heap[j]? := fun j hj => by
    unfold fin4
    rw [Below.heap_setCell _ _ _ _ hj, Below.heap_setCell _ _ _ _ hj, Below.heap_setCell _ _ _ _ hj, Below.heap_setCell _ _ _ _ hj]
  have hlt := lt_of_heap hd.box
  have hw := h.size
  refine ⟨rfl, ?_, w0.heap.size, w.heap.size, E, ⟨(set4 d3.box _ _).2.2.2, h3.map.keep (ho _ (by omega)), hm.keep (ho _ (by omega)), by omega, fun x hx => ?_, ?_, ?_, h.ap, hd.sp, hS _ (Nat.le_refl _), hS _ (by omega)⟩, hp, h.made⟩
  · unfold fin4
    exact ((((Kp.of h3.below).set 0 _ hd.sp).set 1 _ hd.sp).set 2 _ hd.sp).set 3 _ hd.sp
  · have q := h3.fi x hx
    exact q.1.but (ho _ (by have := q.2.1; omega)) (fun b e => ho b (by have := q.2.2 b e; omega))
  · intro q hq
    obtain ⟨z, hz, rfl⟩ := List.mem_map.1 hq
    exact ⟨_, List.mem_map.2 ⟨z, hz, rfl⟩, rfl⟩
  · intro q hq
    obtain ⟨z, hz, rfl⟩ := List.mem_map.1 hq
    exact ⟨_, List.mem_map.2 ⟨z, hz, rfl⟩, rfl⟩

theorem keyOf_inv {v : Value} {l : Lit} (h : keyOf Tryd.prog 9 v = some l) : ∃ x : Tx, v = encStr x ∧ l = .string x ∧ T64 x := Maps.keyOf_str txTy h

set_option maxRecDepth 100000 in
set_option maxHeartbeats 8000000 in
theorem crash_any {S : Nat → Prop} {p fb sb : Nat} {F Z : List (Tx × Nat)} {n st : Int} {G : List Fi} (k : Int) (w : World) (hS : ∀ k, w.heap.size ≤ k → S k) (hd : Dk S w p fb sb F Z n st G) (hk : I64 k) (hZ : Z.length ≤ 1000) :
    Calls Tryd.prog 20 #[ptrV p, .int .i64 k] w fun e w' => CrashP S w p Z k G e w' := by
  have hmm := @run_makeMap Tryd.prog
  have b0 : Below w.heap.size w (w.alloc (.map #[] 0)) := (Below.refl _ _).alloc (Nat.le_refl _) _
  have d0 := hd.below b0
  have c1 : (w.alloc (.map #[] 0)).cell? ⟨p, 1, none⟩ = some (.map (some sb)) := Lib.cell_of_heap d0.box 1
  obtain ⟨D0, hown, hh, hat0, hsz⟩ := d0.ms.own
  have hperm : ∀ ss, Collected D0 (fun _ => false) ss → ss.Perm (Z.map (·.1)) := fun ss hC => by
    refine (List.perm_ext_iff_of_nodup hC.1 ?_).2 fun x => ?_
    · have := d0.ms.nd
      unfold ptrs at this
      rw [List.map_map] at this
      exact this
    · have e0 : Z.map (·.1) = (ptrs Z).map (·.1) := by unfold ptrs; rw [List.map_map]; rfl
      rw [hC.2 x, e0]
      constructor
      · rintro ⟨hx, _⟩
        have ht := has_short hown hx
        rw [hh x ht] at hx
        refine Classical.byContradiction fun hc => ?_
        rw [lk_none.2 hc] at hx
        cases hx
      · intro hx
        refine ⟨?_, rfl⟩
        obtain ⟨q, hq, rfl⟩ := List.mem_map.1 hx
        rw [hh _ (d0.ms.t64 q hq)]
        cases hk : lk (ptrs Z) q.1 with
        | some _ => rfl
        | none => exact absurd hx (lk_none.1 hk)
  have HD : Hid (∀ r v, T64 r → lk (ptrs Z) r = some v → ∀ z, D0.atKey (.string r) z = .held v) := hat0
  have HH : Hid (∀ r, T64 r → Maps.has D0 (.string r) = (lk (ptrs Z) r).isSome) := hh
  have HP : Hid _ := hperm
  have HW : Hid (Dk S w p fb sb F Z n st G ∧ ∀ k, w.heap.size ≤ k → S k) := ⟨hd, hS⟩
  have I0 : ∀ w1, (w.alloc (.map #[] 0)).grownBy w1 none → w1.heap.size = (w.alloc (.map #[] 0)).heap.size + 1 → CrI S w k Z G [] w1 := fun w1 hg hs => by
    refine ⟨(MapS.made w).grown hg (by simp), (fun q hq => by cases hq), (fun x hx => by cases hx), List.Pairwise.nil, b0.grown hg b0.size (fun k e => by cases e), ?_⟩
    rw [hs]; simp
  have HI : Hid _ := I0
  have hk' := hk
  have HK : Hid (I64 k) := hk'
  obtain ⟨post, hpost⟩ : ∃ post, post = fun e w' => CrashP S w p Z k G e w' := ⟨_, rfl⟩
  rw [← hpost]
  have HPO : Hid (post = _) := hpost
  have zg := lt_of_heap d0.box
  clear b0 d0 hh hat0 hperm hd I0 hk hk' hS hpost
  unfold ptrV
  go_enter Tryd.func20, Tryd.ntmps20
  go_wp2_with (first | (at_range; refine wpList_range_own _ rfl _ 49 rfl 9 62 txLaw Tryd.underlying49 _ sb (ptrs Z).length D0 rfl hown ?_; intro w1 hrg0 hg0 hs1) | go_in)
  go_frame
  have hI1 : Hid (CrI S w k Z G [] w1) := HI.out w1 hg0 hs1
  have hsz0 : (w.alloc (.map #[] 0)).heap.size = w.heap.size + 1 := by simp
  rw [hsz0] at hrg0 ⊢
  clear hg0 hs1 c1 zg hsz0 hown hmm HI
  go_loopw [5, 6] (fun _ _ wr => ∃ (left : Lit → Bool) (cnt : Nat) (E : List Rst), wr.ranges Tryd.prog 9 rawElem sb (w.heap.size + 1) (ptrs Z).length D0 left cnt ∧ Hid (Collected D0 left (E.map (·.1)) ∧ E.length + cnt ≤ Maps.size D0) ∧ Hid (∀ r, left (.string r) = true → Maps.has D0 (.string r) = true) ∧ Hid (CrI S w k Z G E wr)) (fun _ _ wr => wr.rangeLeft sb (w.heap.size + 1))
  case atStart => exact ⟨_, _, [], hrg0, ⟨Collected.start D0, by simp⟩, fun r h => h, hI1.out⟩
  case round =>
    clear hrg0 hI1
    obtain ⟨left, cnt, E, hrg, hC, hleft, hI⟩ := hrel
    go_wp2_with (first | (at_next; refine wpList_next_ranges _ rfl _ rfl 9 txLaw rawElem encStr id (fun key kl hk => by obtain ⟨x, hx, _⟩ := keyOf_inv hk; exact ⟨x, hx⟩) (fun v _ _ => ⟨v, rfl⟩) sb (w.heap.size + 1) (ptrs Z).length _ _ _ rfl hrg ?_ ?_) | go_in)
    · intro hc0 hl0
      obtain rfl : left = fun _ => false := funext hl0
      have hper := HP.out _ hC.out.1
      have CL := (cloneM_any w.heap.size _ wr hI.out.map).mono (R' := fun e w3 => e = .returned (.map (some wr.heap.size)) ∧ w3.heap[p]? = some (.cells #[.map (some fb), .map (some sb), .int .i64 n, .int .i64 st] 51) ∧ post (.returned (.tuple #[])) (fin4 w3 p w.heap.size wr.heap.size)) (by
        rintro e w3 ⟨rfl, hm, hb⟩
        refine ⟨rfl, (HW.out.1.below (hI.out.keepB hb).below).box, ?_⟩
        rw [HPO.out]
        exact hI.out.fin HW.out.1 HW.out.2 hb hm hper)
      clear hrg hC hleft hI hc0 hl0 hper
      go_wp2_with (go_at_call 33; refine CL.mono ?_; rintro e w3 ⟨rfl, h3, hq⟩
                   obtain ⟨q1, q2, q3, q4⟩ := set4 h3 w.heap.size wr.heap.size
                   have HEND : Hid (_) := hq
                   have a0 : w3.cell? ⟨p, 0, none⟩ = some (.map (some fb)) := Lib.cell_of_heap h3 0
                   have a1 : w3.frozen? ⟨p, 0, none⟩ = false := Lib.frozen_of_heap h3 0
                   have a2 : (w3.setCell ⟨p, 0, none⟩ (.map (some w.heap.size))).cell? ⟨p, 1, none⟩ = some (.map (some sb)) := Lib.cell_of_heap q1 1
                   have a3 : (w3.setCell ⟨p, 0, none⟩ (.map (some w.heap.size))).frozen? ⟨p, 1, none⟩ = false := Lib.frozen_of_heap q1 1
                   have a4 : ((w3.setCell ⟨p, 0, none⟩ (.map (some w.heap.size))).setCell ⟨p, 1, none⟩ (.map (some wr.heap.size))).cell? ⟨p, 2, none⟩ = some (.int .i64 n) := Lib.cell_of_heap q2 2
                   have a5 : ((w3.setCell ⟨p, 0, none⟩ (.map (some w.heap.size))).setCell ⟨p, 1, none⟩ (.map (some wr.heap.size))).frozen? ⟨p, 2, none⟩ = false := Lib.frozen_of_heap q2 2
                   have a6 : (((w3.setCell ⟨p, 0, none⟩ (.map (some w.heap.size))).setCell ⟨p, 1, none⟩ (.map (some wr.heap.size))).setCell ⟨p, 2, none⟩ (.int .i64 0)).cell? ⟨p, 3, none⟩ = some (.int .i64 st) := Lib.cell_of_heap q3 3
                   have a7 : (((w3.setCell ⟨p, 0, none⟩ (.map (some w.heap.size))).setCell ⟨p, 1, none⟩ (.map (some wr.heap.size))).setCell ⟨p, 2, none⟩ (.int .i64 0)).frozen? ⟨p, 3, none⟩ = false := Lib.frozen_of_heap q3 3
                   clear q1 q2 q3 q4 h3 hq)
      first | exact HEND.out | (go_end0; exact HEND.out)
    · intro x1 c kl yd yp w2 cnt2 hkey hlk hv hat hrg2 hlt hg2 hs2 hen
      obtain ⟨x', ex, rfl, hx64⟩ := keyOf_inv hkey
      obtain rfl := encStr_inj ex
      obtain ⟨v, hlv⟩ : ∃ v, lk (ptrs Z) x1 = some v := Option.isSome_iff_exists.1 (by rw [← HH.out x1 hx64]; exact hleft.out _ hlk)
      have hcv : c = v := by
        have h1 := HD.out _ v hx64 hlv (.held v)
        have h2 := hat (.held v)
        unfold rawElem at hv
        have h3 := congrArg Prod.fst (Option.some.inj hv)
        have h4 : DataW.held c = .held v := by
          have h5 : DataW.held c = yd := h3
          rw [h5, ← h2]; exact h1
        exact DataW.held.inj h4
      subst hcv
      rw [lk_ptrs] at hlv
      obtain ⟨g, hg, hcg⟩ := Option.map_eq_some_iff.1 hlv
      subst hcg
      have hz := fk_mem hg
      obtain ⟨x, hx, hxg⟩ := HW.out.1.inZ _ hz
      have hxg' : x.g = g := hxg
      subst hxg'
      have hI2 : CrI S w k Z G E w2 := hI.out.keep hg2.size ⟨hg2.os, hg2.tape, hg2.output⟩ (fun j hj hne => hg2.block j hj (fun e => hne (Option.some.inj e)))
      have hn : x1 ∉ E.map (·.1) := fun hm => by have := ((hC.out.1.2 x1).1 hm).2; rw [hlk] at this; cases this
      have hS2 : ∀ k, w2.heap.size ≤ k → S k := fun k hk => HW.out.2 k (by have := hI2.size; omega)
      have hsb : sb < w.heap.size := HW.out.1.ms.lt
      have hlen := hC.out.2
      have hpl : (ptrs Z).length = Z.length := by unfold ptrs; rw [List.length_map]
      have hCs := hC.out.1.step hlk hat
      have LL := (left_any x k w2 hS2 ((HW.out.1.below hI2.below).fi x hx) HK.out).mono (R' := fun e w3 => ∃ y w4, e = .returned (.pointer (some ⟨y, 0, none⟩)) ∧ (Instr.mapUpdate 49 (.map (some w.heap.size)) (encStr x1) (.pointer (some ⟨y, 0, none⟩))).run Tryd.prog w3 = .ok () w4 ∧ Hid (w4.ranges Tryd.prog 9 rawElem sb (w.heap.size + 1) (ptrs Z).length D0 (fun z => left z && !z.sameKey (.string x1)) cnt2) ∧ ∃ E', Hid (Collected D0 (fun z => left z && !z.sameKey (.string x1)) (E'.map (·.1)) ∧ E'.length + cnt2 ≤ Maps.size D0) ∧ Hid (CrI S w k Z G E' w4)) (by
        rintro e w3 ⟨y, rfl, hy, hb1, hb2, hyg, hyv, hb3⟩
        have hI3 := hI2.keepB hb3
        obtain ⟨w4, q1, q2, q3⟩ := hI3.map.put (T := 49) (E := 62) Tryd.underlying49 hx64 (by unfold ptrs nmF; rw [List.length_map, List.length_map]; rw [hsz, hpl] at hlen; omega) (ptrV y.g)
        have hrg3 := hrg2.kept (w' := w3) (row := none) ⟨hb3.os, hb3.tape, hb3.output, hb3.size, fun k hk _ => hb3.block k hk⟩ (by simp) (by simp)
        refine ⟨y.g, w4, rfl, q1, hrg3.kept q3.grown (fun e => by have := Option.some.inj e; omega) (fun e => by have := Option.some.inj e; omega), E ++ [(x1, x.g, y)], ⟨?_, ?_⟩, ?_⟩
        · rw [List.map_append]; exact hCs
        · rw [List.length_append, List.length_singleton]; omega
        · refine hI2.step hb3 hy hyg hyv hz (fun z hzG e => ?_) hn q3 q2
          obtain rfl := fi_uniq HW.out.1.ap hzG hx e
          exact ⟨hb1, hb2⟩)
      unfold ptrV at LL hen
      have HLe : Hid _ := hrg.left_eq
      have HL : Hid (cnt2 < cnt) := hlt
      have HXL : Hid (∀ r, (left (.string r) && !(Lit.string r).sameKey (.string x1)) = true → Maps.has D0 (.string r) = true) := fun r hl => hleft.out r (by simp at hl; exact hl.1)
      clear hrg hrg2 hkey ex hv hat hg2 hs2 hlv hg hz hI2 hn hS2 hsb hlen hCs hI hC hleft hlt hx64 hlk
      go_wp2_with (go_at_call 34; refine LL.mono ?_; rintro e w3 ⟨y, w4, rfl, q1, HQ2, E', q3, q4⟩)
      go_roundw
      case rel => exact ⟨_, cnt2, E', HQ2.out, q3, HXL.out, q4⟩
      case measure => rw [HQ2.out.left_eq, HLe.out]; exact HL.out
end Go.Proofs.YtcdpcjafomfddaaDoor
