/-
  What is proved: the function stepTo of package json, called with a tree that lies in memory and a kid's number, answers the step to that kid. what stays while the paths of a value are gathered in a list that lies in a box of its own.
  Conditions: as each theorem says.
-/
import Derived.Test.YtnoikdlofkcgaaaGreatDoorG19
import Derived.ArgAppend
namespace Go.Proofs.YtnoikdlofkcgaaaGreatDoor
open Go.RowKit Go.Sort

set_option maxRecDepth 100000 in
set_option maxHeartbeats 4000000 in
theorem stepTo_any (x : V) (ks : List ByteArray) (ak a2 : Option Addr) (ck n2 c2 i : Nat) (w : World) (hk : IsStrs w (.slice ak ks.length ck) ks) (h5 : x.k = 5 → i < ks.length) :
    Calls Tryz.prog 16 #[tval (x, .slice ak ks.length ck, .slice a2 n2 c2), .int .i64 i] w fun e w' => e = .returned (stpV (stepOf x ks i)) ∧ Below w.heap.size w w' := by
  have HV : Hid (stepOf x ks i = if x.k = 5 then (ks[i]?.getD ⟨#[]⟩, 0) else (⟨#[]⟩, (i : Int))) := rfl
  generalize stepOf x ks i = st at *
  obtain ⟨k, n, t, o, c⟩ := x
  obtain ⟨x0, y0, b0⟩ := two_boxes w (.cells #[.int .i64 k, .int .i64 n, .string t, .int .i64 o, .int .i64 c, .slice ak ks.length ck, .slice a2 n2 c2] 29) (.cells #[.string ⟨#[]⟩, .int .i64 0] 60)
  have HS : Hid (IsStrs w (.slice ak ks.length ck) ks) := hk
  have HX : Hid (_ ∧ _ ∧ _) := ⟨x0, y0, b0⟩
  clear x0 y0 b0 hk
  unfold tval
  dsimp only at *
  by_cases hk5 : k = 5
  · subst hk5
    have hi := h5 rfl
    clear h5
    go_enter Tryz.func16, Tryz.ntmps16
    go_upto_region 1 with fail
    obtain ⟨x0, y0, b0⟩ := HX.out
    clear HX
    generalize (w.alloc (.cells #[.int .i64 5, .int .i64 n, .string t, .int .i64 o, .int .i64 c, .slice ak ks.length ck, .slice a2 n2 c2] 29)).alloc (.cells #[.string ⟨#[]⟩, .int .i64 0] 60) = W at *
    obtain ⟨b, off, rfl, hb4, hmem⟩ := HS.out.cells b0 (show ks ≠ [] from fun e => by rw [e] at hi; simp at hi)
    have m0 := hmem i hi
    have g1 : (i : Int) < ks.length := by omega
    have k0 : W.cell? ⟨w.heap.size, 0, none⟩ = some (.int .i64 5) := Lib.cell_of_heap x0 0
    have k5 : W.cell? ⟨w.heap.size, 5, none⟩ = some (.slice (some ⟨b, off, none⟩) ks.length ck) := Lib.cell_of_heap x0 5
    have z0 : W.cell? ⟨w.heap.size + 1, 0, none⟩ = some (.string ⟨#[]⟩) := Lib.cell_of_heap y0 0
    have z1 : W.cell? ⟨w.heap.size + 1, 1, none⟩ = some (.int .i64 0) := Lib.cell_of_heap y0 1
    have zf := Lib.frozen_of_heap y0
    have HR : Hid (st = (ks[i], 0)) := by
      show st = _
      rw [HV.out, if_pos rfl, List.getElem?_eq_getElem hi]; rfl
    generalize ks[i] = key at *
    have hF : ((W.setCell ⟨w.heap.size + 1, 0, none⟩ (.string key)).setCell ⟨w.heap.size + 1, 1, none⟩ (.int .i64 0)).heap[w.heap.size + 1]? = some (.cells #[.string key, .int .i64 0] 60) := set_at (set_at y0 0 (.string key)) 1 (.int .i64 0)
    have HBF : Hid (Below w.heap.size w ((W.setCell ⟨w.heap.size + 1, 0, none⟩ (.string key)).setCell ⟨w.heap.size + 1, 1, none⟩ (.int .i64 0))) := (b0.setCell (Nat.le_succ _) _).setCell (Nat.le_succ _) _
    have HHF : Hid (_ = some _) := hF
    clear hF x0 y0 b0 hmem hi
    go_wp2
    clear z0 z1 zf k0 k5 m0
    generalize (W.setCell ⟨w.heap.size + 1, 0, none⟩ (.string key)).setCell ⟨w.heap.size + 1, 1, none⟩ (.int .i64 0) = V at *
    have q0 : V.cell? ⟨w.heap.size + 1, 0, none⟩ = some (.string key) := Lib.cell_of_heap HHF.out 0
    have q1 : V.cell? ⟨w.heap.size + 1, 1, none⟩ = some (.int .i64 0) := Lib.cell_of_heap HHF.out 1
    exact bodyPost_ret (v := stpV (key, 0)) (by simp [results, Tryz.results16, go_sem, q0, q1]) rfl ⟨by rw [HR.out], HBF.out⟩
  · have HR : Hid (st = (⟨#[]⟩, (i : Int))) := by
      show st = _
      rw [HV.out, if_neg hk5]
    have hk5' : (k == 5) = false := by simpa using hk5
    clear hk5 h5
    go_enter Tryz.func16, Tryz.ntmps16
    go_upto_region 1 with fail
    obtain ⟨x0, y0, b0⟩ := HX.out
    clear HX
    generalize (w.alloc (.cells #[.int .i64 k, .int .i64 n, .string t, .int .i64 o, .int .i64 c, .slice ak ks.length ck, .slice a2 n2 c2] 29)).alloc (.cells #[.string ⟨#[]⟩, .int .i64 0] 60) = W at *
    have k0 : W.cell? ⟨w.heap.size, 0, none⟩ = some (.int .i64 k) := Lib.cell_of_heap x0 0
    have z0 : W.cell? ⟨w.heap.size + 1, 0, none⟩ = some (.string ⟨#[]⟩) := Lib.cell_of_heap y0 0
    have z1 : W.cell? ⟨w.heap.size + 1, 1, none⟩ = some (.int .i64 0) := Lib.cell_of_heap y0 1
    have zf := Lib.frozen_of_heap y0
    have HHF : Hid (_ = some (Obj.cells #[.string ⟨#[]⟩, .int .i64 (i : Int)] 60)) := set_at (set_at y0 0 (.string ⟨#[]⟩)) 1 (.int .i64 (i : Int))
    have HBF : Hid (Below w.heap.size w ((W.setCell ⟨w.heap.size + 1, 0, none⟩ (.string ⟨#[]⟩)).setCell ⟨w.heap.size + 1, 1, none⟩ (.int .i64 (i : Int)))) := (b0.setCell (Nat.le_succ _) _).setCell (Nat.le_succ _) _
    clear x0 y0 b0
    go_wp2
    clear z0 z1 zf k0
    generalize (W.setCell ⟨w.heap.size + 1, 0, none⟩ (.string ⟨#[]⟩)).setCell ⟨w.heap.size + 1, 1, none⟩ (.int .i64 (i : Int)) = V at *
    have q0 : V.cell? ⟨w.heap.size + 1, 0, none⟩ = some (.string ⟨#[]⟩) := Lib.cell_of_heap HHF.out 0
    have q1 : V.cell? ⟨w.heap.size + 1, 1, none⟩ = some (.int .i64 (i : Int)) := Lib.cell_of_heap HHF.out 1
    exact bodyPost_ret (v := stpV (⟨#[]⟩, (i : Int))) (by simp [results, Tryz.results16, go_sem, q0, q1]) rfl ⟨by rw [HR.out], HBF.out⟩
end Go.Proofs.YtnoikdlofkcgaaaGreatDoor

namespace Go.Proofs.YtnoikdlofkcgaaaGreatDoor
open Go.RowKit Go.Sort

/-- All but the list's box, and rows of rows of steps behind B, is as it was. -/
structure Fp (B gl : Nat) (w w' : World) : Prop where
  os : w'.os = w.os
  tape : w'.tape = w.tape
  output : w'.output = w.output
  size : w.heap.size ≤ w'.heap.size
  low : ∀ k, k < B → w'.heap[k]? = w.heap[k]?
  block : ∀ k, k < w.heap.size → k ≠ gl → (∀ cs, w.heap[k]? ≠ some (.cells cs 42)) → w'.heap[k]? = w.heap[k]?
theorem Fp.refl (B gl : Nat) (w : World) : Fp B gl w w := ⟨rfl, rfl, rfl, Nat.le_refl _, fun _ _ => rfl, fun _ _ _ _ => rfl⟩
theorem Fp.trans {B gl : Nat} {w w1 w2 : World} (h : Fp B gl w w1) (k : Fp B gl w1 w2) : Fp B gl w w2 :=
  ⟨k.os.trans h.os, k.tape.trans h.tape, k.output.trans h.output, Nat.le_trans h.size k.size, fun b hb => (k.low b hb).trans (h.low b hb), fun b hb hg hn => by
    have e := h.block b hb hg hn
    exact (k.block b (Nat.lt_of_lt_of_le hb h.size) hg (by rw [e]; exact hn)).trans e⟩
theorem Fp.of {B gl : Nat} {w w' : World} (h : Below w.heap.size w w') (hB : B ≤ w.heap.size) : Fp B gl w w' := ⟨h.os, h.tape, h.output, h.size, fun k hk => h.block k (by omega), fun k hk _ _ => h.block k hk⟩
theorem Fp.below {B gl : Nat} {w w' : World} (h : Fp B gl w w') : Below B w w' := ⟨h.os, h.tape, h.output, h.size, h.low⟩
theorem Fp.heap {B gl g t : Nat} {w w' : World} {cs : Array Value} (h : Fp B gl w w') (hg : w.heap[g]? = some (.cells cs t)) (hne : g ≠ gl) (ht : t ≠ 42) : w'.heap[g]? = some (.cells cs t) := by
  rw [h.block g (lt_of_heap hg) hne (fun cs' e => ?_)]
  · exact hg
  · rw [hg] at e
    have e1 := Option.some.inj e
    injection e1 with _ e2
    exact ht e2
theorem Fp.same {B gl g t : Nat} {w w' : World} {cs : Array Value} (h : Fp B gl w w') (hg : w.heap[g]? = some (.cells cs t)) (hne : g ≠ gl) (ht : t ≠ 42) : w'.heap[g]? = w.heap[g]? := (h.heap hg hne ht).trans hg.symm
theorem Fp.steps {B gl : Nat} {w w' : World} {v : Value} {l : List Stp} (h : Fp B gl w w') {cs : Array Value} (hgl : w.heap[gl]? = some (.cells cs 37)) {C : Nat} (hr : RS C w v l) : RS C w' v l := by
  refine ⟨hr.1, ?_⟩
  rcases hr.2 with h0 | ⟨g, cap, cur, h1, h2, h3, h4⟩
  · exact Or.inl h0
  · refine Or.inr ⟨g, cap, cur, h1, h2, h.heap h3 (fun e => ?_) (by decide), h4⟩
    subst e
    rw [h3] at hgl
    have e1 := Option.some.inj hgl
    injection e1 with _ e2
    exact absurd e2 (by decide)

/-- The three boxes that the function has caught: the value, the list, itself. -/
structure PS (B gv gl gw : Nat) (y : V) (L : List (List Stp)) (w : World) : Prop where
  v : w.heap[gv]? = some (.cells #[.int .i64 y.k, .int .i64 y.n, .string y.t, .int .i64 y.o, .int .i64 y.a] 25)
  f : w.heap[gw]? = some (.cells #[.func (Fn.func 15) #[] #[.pointer (some ⟨gv, 0, none⟩), .pointer (some ⟨gl, 0, none⟩), .pointer (some ⟨gw, 0, none⟩)]] 58)
  l : ∃ a n c, w.heap[gl]? = some (.cells #[.slice a n c] 37) ∧ RP B w (.slice a n c) L
theorem PS.below {B gv gl gw : Nat} {y : V} {L : List (List Stp)} {w w' : World} (h : PS B gv gl gw y L w) (hb : Below w.heap.size w w') : PS B gv gl gw y L w' := by
  obtain ⟨a, n, c, h1, h2⟩ := h.l
  exact ⟨(hb.block _ (lt_of_heap h.v)).trans h.v, (hb.block _ (lt_of_heap h.f)).trans h.f, a, n, c, (hb.block _ (lt_of_heap h1)).trans h1, h2.below hb⟩
theorem PS.apart {B gv gl gw : Nat} {y : V} {L : List (List Stp)} {w : World} (h : PS B gv gl gw y L w) : gv ≠ gl ∧ gw ≠ gl := by
  obtain ⟨a, n, c, h1, _⟩ := h.l
  refine ⟨fun e => ?_, fun e => ?_⟩
  · subst e
    rw [h.v] at h1
    have e1 := Option.some.inj h1
    injection e1 with _ e2
    exact absurd e2 (by decide)
  · subst e
    rw [h.f] at h1
    have e1 := Option.some.inj h1
    injection e1 with _ e2
    exact absurd e2 (by decide)

/-- A row of rows stays while a box of another kind is set. -/
theorem RP.set {B g i t : Nat} {w : World} {v u : Value} {L : List (List Stp)} {cur : Array Value} (h : RP B w v L) (hg : w.heap[g]? = some (.cells cur t)) (h1 : t ≠ 42) (h2 : t ≠ 60) : RP B (w.setCell ⟨g, i, none⟩ u) v L := by
  obtain ⟨us, r1, r2, r3⟩ := h
  exact ⟨us, own_set_other r1 hg h1, r2, fun k hk hk' => own_set_other (r3 k hk hk') hg h2⟩
/-- What grows of a row of rows turns no other block. -/
theorem grown_fp {B gl : Nat} {w w' : World} {o : Value} {L : List (List Stp)} (hg : w.grownBy w' o.ownBlock) (ho : RP B w o L) (hB : B ≤ w.heap.size) : Fp B gl w w' := by
  obtain ⟨us, h1, h2, h3⟩ := ho
  refine ⟨hg.os, hg.tape, hg.output, hg.size, (grown_below hg h1 hB).block, fun k hk _ hn => hg.block k hk (fun eo => ?_)⟩
  rcases h1.2 with ⟨rfl, _⟩ | ⟨g', cap', cur', rfl, _, hh, _⟩
  · simp [Value.ownBlock] at eo
  · simp [Value.ownBlock] at eo
    subst eo
    exact hn _ hh

/-- A path taken into the list. -/
theorem PS.more {B gv gl gw : Nat} {y : V} {L : List (List Stp)} {w : World} {a : Option Addr} {n c : Nat} (h : PS B gv gl gw y L w) (hl : w.heap[gl]? = some (.cells #[.slice a n c] 37)) {pv : Value} {p : List Stp} (hp : RS 0 w pv p) (hB : B ≤ w.heap.size) (hgl : B ≤ gl) (hL : L.length ≤ 1000) :
    ∃ a' n' c' W', (Builtin.append_ #[37, 37] 37 #[.slice a n c, .slice (some ⟨w.heap.size, 0, none⟩) 1 1]).run Tryz.prog (w.alloc (.cells #[pv] 42)) = .ok (.slice a' n' c') W' ∧ W'.heap[gl]? = some (.cells #[.slice a n c] 37) ∧
      PS B gv gl gw y (L ++ [p]) (W'.setCell ⟨gl, 0, none⟩ (.slice a' n' c')) ∧ Fp B gl w (W'.setCell ⟨gl, 0, none⟩ (.slice a' n' c')) := by
  have b1 := (Below.refl w.heap.size w).alloc (Nat.le_refl _) (.cells #[pv] 42)
  have n1 : (w.alloc (.cells #[pv] 42)).heap[w.heap.size]? = some _ := (MapKept.heap_alloc w _).1
  have hap := h.apart
  have h1 := h.below b1
  obtain ⟨a0, n0, c0, e1, r0⟩ := h1.l
  have e2 := (b1.block _ (lt_of_heap hl)).trans hl
  rw [e1] at e2
  have e3 := Option.some.inj e2
  injection e3 with e4 _
  have e5 : Value.slice a0 n0 c0 = .slice a n c := by
    have := congrArg (fun (x : Array Value) => x[0]?) e4
    exact Option.some.inj this
  rw [e5] at e1 r0
  have p1 : RS 0 (w.alloc (.cells #[pv] 42)) pv p := own_below hp b1 (Nat.le_refl _)
  have zz := b1.size
  obtain ⟨u, W', q1, q2, q3, q4, q5⟩ := app_paths 37 (w.alloc (.cells #[pv] 42)) B (by omega) (.slice a n c) L r0 (some ⟨w.heap.size, 0, none⟩) 1 [pv] [p] rfl (fun i hi hi' => by
      have e : i = 0 := by simpa using hi
      subst e
      exact p1) (fun h => by cases h) (fun ad had jj u hu => by
      obtain rfl := Option.some.inj had
      rw [add_at, Nat.zero_add]
      have e : jj = 0 := by
        rcases Nat.eq_zero_or_pos jj with e | e
        · exact e
        · rw [List.getElem?_eq_none (by simp; omega)] at hu; cases hu
      subst e
      rw [show (w.alloc (.cells #[pv] 42)).cell? ⟨w.heap.size, 0, none⟩ = some pv from Lib.cell_of_heap n1 0]
      simpa using hu) (by simp; omega)
  obtain ⟨a', c', rfl, _⟩ := q2.form
  have F1 : Fp B gl w W' := (Fp.of b1 hB).trans (grown_fp q3 r0 (by omega))
  have hgl' : W'.heap[gl]? = some (.cells #[.slice a n c] 37) := by
    obtain ⟨us, o1, _⟩ := r0
    rw [q3.block gl (lt_of_heap e1) (fun eo => ?_)]
    · exact e1
    · rcases o1.2 with ⟨he, _⟩ | ⟨g', cap', cur', he, _, hh, _⟩
      · rw [he] at eo
        simp [Value.ownBlock] at eo
      · rw [he] at eo
        simp [Value.ownBlock] at eo
        subst eo
        rw [e1] at hh
        have e6 := Option.some.inj hh
        injection e6 with _ e7
        exact absurd e7 (by decide)
  have hv' := F1.heap h.v hap.1 (by decide)
  have hf' := F1.heap h.f hap.2 (by decide)
  refine ⟨a', _, c', W', q1, hgl', ⟨heap_set_other hv' hap.1, heap_set_other hf' hap.2, a', _, c', ?_, q2.set hgl' (by decide) (by decide)⟩, F1.trans ⟨rfl, rfl, rfl, by simp, fun k hk => ?_, fun k hk hne _ => ?_⟩⟩
  · have := set_at hgl' 0 (.slice a' (L ++ [p]).length c')
    simpa using this
  · rcases Nat.lt_or_ge k W'.heap.size with hk' | hk'
    · exact (heap_set_other (w := W') (Array.getElem?_eq_getElem hk') (by omega)).trans (Array.getElem?_eq_getElem hk').symm
    · rw [Array.getElem?_eq_none hk', Array.getElem?_eq_none (by simpa using hk')]
  · exact (heap_set_other (w := W') (Array.getElem?_eq_getElem hk) hne).trans (Array.getElem?_eq_getElem hk).symm

/-- A step put behind steps that are cut at their length. -/
theorem app_cut (ty : TypeId) (W : World) (a : Option Addr) (cap : Nat) (p : List Stp) (hv : RS 0 W (.slice a p.length cap) p) (ad : Addr) (s : Stp) (h0 : W.cell? ad = some (.string s.1)) (h1 : W.cell? (ad.add 1) = some (.int .i64 s.2)) (hl : p.length ≤ 1000000) :
    ∃ u W', (Builtin.append_ #[42, 42] ty #[.slice a p.length p.length, .slice (some ad) 1 1]).run Tryz.prog W = .ok u W' ∧ RS W.heap.size W' u (p ++ [s]) ∧ Below W.heap.size W W' := by
  obtain ⟨i0, hi0, hz0, hz1, hz2⟩ := info_parts infoSt
  have hs : ∀ j u, (stc [s])[j]? = some u → W.cell? (ad.add j) = some u := by
    intro j u hj
    match j with
    | 0 =>
      have e : u = .string s.1 := (Option.some.inj hj).symm
      rw [e, show ad.add 0 = ad from rfl]; exact h0
    | 1 =>
      have e : u = .int .i64 s.2 := (Option.some.inj hj).symm
      rw [e]; exact h1
    | j + 2 => simp [stc] at hj
  cases a with
  | none =>
    obtain rfl := RS.empty hv rfl
    obtain ⟨u, W', q1, q2, q3⟩ := app_steps ty W W.heap.size (Nat.le_refl _) (.slice none 0 0) [] (RS.nil _ _) (some ad) 1 [s] (fun e => by cases e) (fun ad' had => by obtain rfl := Option.some.inj had; exact hs) (by simp)
    exact ⟨u, W', q1, q2, ⟨q3.os, q3.tape, q3.output, q3.size, fun k hk => q3.block k hk (by simp [Value.ownBlock])⟩⟩
  | some b =>
    obtain ⟨u, W', q1, q2, q3⟩ := run_append_arg_grows (P := Tryz.prog) W 42 ty 60 i0 _ 2 _ Tryz.underlying42 hi0 hz0 hz1 hz2 rfl (by decide) b p.length p.length (stc p) (stc_len p) (hv.cells b rfl) ad 1 1 (stc [s]) (stc_len [s]) hs (by omega) (by unfold maxLen; omega) (by omega)
    refine ⟨u, W', q1, ?_, ⟨q3.os, q3.tape, q3.output, q3.size, fun k hk => q3.block k hk (by simp)⟩⟩
    unfold RS
    rw [List.length_append, stc_app]
    exact q2
theorem app_cut' (ty : TypeId) (W : World) (a : Option Addr) (cap : Nat) (p : List Stp) (n : Nat) (hn : p.length = n) (hv : RS 0 W (.slice a n cap) p) (ad : Addr) (s : Stp) (h0 : W.cell? ad = some (.string s.1)) (h1 : W.cell? (ad.add 1) = some (.int .i64 s.2)) (hl : p.length ≤ 1000000) :
    ∃ u W', (Builtin.append_ #[42, 42] ty #[.slice a n n, .slice (some ad) 1 1]).run Tryz.prog W = .ok u W' ∧ RS W.heap.size W' u (p ++ [s]) ∧ Below W.heap.size W W' := by
  subst hn
  exact app_cut ty W a cap p hv ad s h0 h1 hl
/-- Steps cut at their length. -/
theorem slice3 (a : Option Addr) (n c : Nat) (h : n ≤ c) (w : World) : (Instr.sliceAt 42 (.slice a n c) none (some (.int .i64 n)) (some (.int .i64 n))).run Tryz.prog w = .ok (.slice a n n) w := by
  have ht : Tryz.prog.underlying 42 = some (.slice (Tryz.prog.elem 42)) := by kernel_rfl
  have hz : (sizeOf (Tryz.prog.elem 42)).run Tryz.prog w = .ok 2 w := by kernel_rfl
  rw [run_sliceAt_slice (h := ht), run_slice_hm (ht := ht) (h0 := by omega) (h2 := by omega) (h3 := by omega), hz]
  simp only [Result.andThen, sliced, Int.toNat_natCast, Nat.zero_mul, Nat.sub_zero]
  split
  · rfl
  · cases a <;> rfl
end Go.Proofs.YtnoikdlofkcgaaaGreatDoor
