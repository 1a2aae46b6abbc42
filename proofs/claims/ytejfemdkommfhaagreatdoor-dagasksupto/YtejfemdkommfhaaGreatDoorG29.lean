/-
  What is proved: as each theorem says.
  Conditions: as each theorem says.
-/
import Derived.Test.YtejfemdkommfhaaGreatDoorG01
import Derived.Test.YtejfemdkommfhaaGreatDoorG19
import Derived.Test.YtejfemdkommfhaaGreatDoorG21
import Derived.Deep.RegionHeld3
import Derived.Handy
import Derived.Test.YtejfemdkommfhaaGreatDoorG28
namespace Go.Proofs.YtejfemdkommfhaaGreatDoor
open Go.RowKit Go.Sort
theorem keep4 {W W' : World} {a b c d : Addr} {u0 u1 u2 u3 : Value} (h : W.cell? a = some u0 ∧ W.cell? b = some u1 ∧ W.cell? c = some u2 ∧ W.cell? d = some u3) (hb : Below W.heap.size W W') : W'.cell? a = some u0 ∧ W'.cell? b = some u1 ∧ W'.cell? c = some u2 ∧ W'.cell? d = some u3 :=
 ⟨(hb.cell (cell_in h.1)).trans h.1, (hb.cell (cell_in h.2.1)).trans h.2.1, (hb.cell (cell_in h.2.2.1)).trans h.2.2.1, (hb.cell (cell_in h.2.2.2)).trans h.2.2.2⟩
set_option maxRecDepth 100000 in
set_option maxHeartbeats 8000000 in
theorem rReady_any (g : Nat) (la : Option Addr) (ln lc : Nat) (vw : Value) (l : List CX) (v : Value) (c : Chg) (w : World) (hg : w.heap[g]? = some (.cells #[.slice la ln lc, vw] 30)) (hl : IsChgs w (.slice la ln lc) l) (hv : IsChg w v c) :
 Calls Tryz.prog 22 #[.pointer (some ⟨g, 0, none⟩), v] w fun e w' => (∃ b : Bool, e = .returned (.bool b) ∧ (b = true ↔ Ready (l.map (·.c)) c)) ∧ Below w.heap.size w w' := by
 obtain ⟨ud, uo, lo, rfl, _, _, _, hdp, hop, _⟩ := hv
 obtain ⟨da, dn, dc, rfl⟩ : ∃ a n c, ud = .slice a n c := by obtain ⟨a, c, e, _⟩ := hdp; exact ⟨_, _, _, e⟩
 obtain ⟨oa, on, oc, rfl⟩ : ∃ a n c, uo = .slice a n c := by obtain ⟨a, c, e, _⟩ := hop; exact ⟨_, _, _, e⟩
 obtain ⟨HDN⟩ : Nonempty (Hid (dn = c.deps.length ∧ c.deps.length ≤ 8796093022208)) := ⟨by obtain ⟨a, c9, e, _, h2, _⟩ := hdp; exact ⟨(Value.slice.inj e).2.1, h2⟩⟩
 obtain ⟨ca, hca⟩ : ∃ z : Int, c.actor = z := ⟨_, rfl⟩
 obtain ⟨cs, hcs⟩ : ∃ z : Int, c.seq = z := ⟨_, rfl⟩
 obtain ⟨ct, hct⟩ : ∃ z : Int, c.start = z := ⟨_, rfl⟩
 rw [hca, hcs, hct]
 have HV : Hid (w.heap[g]? = some (.cells #[.slice la ln lc, vw] 30) ∧ IsChgs w (.slice la ln lc) l ∧ IsPairs w (.slice da dn dc) c.deps) := ⟨hg, hl, hdp⟩
 have HN0 : Hid ((w.alloc (.cells #[.int .i64 ca, .int .i64 cs, .int .i64 ct, .slice da dn dc, .slice oa on oc] 34)).heap[w.heap.size]? = some (.cells #[.int .i64 ca, .int .i64 cs, .int .i64 ct, .slice da dn dc, .slice oa on oc] 34) ∧ Below w.heap.size w (w.alloc (.cells #[.int .i64 ca, .int .i64 cs, .int .i64 ct, .slice da dn dc, .slice oa on oc] 34))) := ⟨heap_alloc_new w _, (Below.refl _ _).alloc (Nat.le_refl _) _⟩
 clear hg hl hdp hop hca hcs hct
 go_enter Tryz.func22, Tryz.ntmps22
 go_wp2_with fail
 go_loopw [5] (fun i wr => ∃ m : Nat, m ≤ c.deps.length ∧ i = .int .i64 m ∧ Hid ((∀ j (hj : j < c.deps.length), j < m → c.deps[j] ∈ refsOf (l.map (·.c))) ∧ wr.heap[w.heap.size]? = some (.cells #[.int .i64 ca, .int .i64 cs, .int .i64 ct, .slice da dn dc, .slice oa on oc] 34) ∧ Below w.heap.size w wr)) (fun i _ => c.deps.length - (RowKit.intOf i).toNat)
 case atStart => exact ⟨0, Nat.zero_le _, rfl, fun j _ hj => absurd hj (Nat.not_lt_zero _), HN0.out⟩
 case round =>
  obtain ⟨m, hm, rfl, hR⟩ := hrel
  clear HN0
  have c3 : wr.cell? ⟨w.heap.size, 3, none⟩ = some (.slice da dn dc) := Lib.cell_of_heap hR.out.2.1 3
  by_cases hlt : m < c.deps.length
  ·obtain ⟨a', c', e9, _, _, _, h4⟩ := id HV.out.2.2
   obtain ⟨pb, po, ha', h5, h6⟩ := h4 (fun e => by rw [e] at hlt; simp at hlt)
   have hda : da = some ⟨pb, po, none⟩ := (Value.slice.inj e9).1.trans ha'
   have d3 : wr.cell? ⟨w.heap.size, 3, none⟩ = some (.slice (some ⟨pb, po, none⟩) dn dc) := by rw [← hda]; exact c3
   obtain ⟨a, ha⟩ : ∃ z : Pr, c.deps[m] = z := ⟨_, rfl⟩
   have y0 : wr.cell? ⟨pb, po + m * 2, none⟩ = some (.int .i64 a.1) := by rw [hR.out.2.2.cell (p := ⟨pb, po + m * 2, none⟩) h5, ← ha]; exact (h6 m hlt).1
   have y1 : wr.cell? ⟨pb, po + m * 2 + 1, none⟩ = some (.int .i64 a.2) := by rw [hR.out.2.2.cell (p := ⟨pb, po + m * 2 + 1, none⟩) h5, ← ha]; exact (h6 m hlt).2
   have k0 : wr.cell? ⟨g, 0, none⟩ = some (.slice la ln lc) := Lib.cell_of_heap ((hR.out.2.2.block g (lt_of_heap HV.out.1)).trans HV.out.1) 0
   have zg : g < wr.heap.size := Nat.lt_of_lt_of_le (lt_of_heap HV.out.1) hR.out.2.2.size
   have HM : Hid (∃ h : m < c.deps.length, c.deps[m] = a) := ⟨hlt, ha⟩
   have g1 : (m : Int) < dn := by have := HDN.out.1; omega
   have g3 : (0 : Int) ≤ m := by omega
   have HR : Hid ((∀ j (hj : j < c.deps.length), j < m → c.deps[j] ∈ refsOf (l.map (·.c))) ∧ wr.drew.heap[w.heap.size]? = some (.cells #[.int .i64 ca, .int .i64 cs, .int .i64 ct, .slice da dn dc, .slice oa on oc] 34) ∧ Below w.heap.size w wr.drew) := ⟨hR.out.1, hR.out.2.1, drew_of hR.out.2.2⟩
   have EF := rFind_any (.slice la ln lc) l a wr.drew (HV.out.2.1.below HR.out.2.2)
   clear e9 h4 ha' h5 h6 hda ha hlt hm hR c3
   go_upto_region 4 with fail
   refine wp_region_noPanic ?_
   refine wp_region_held_drew (S := fun W => W.cell? ⟨g, 0, none⟩ = some (.slice la ln lc) ∧ W.cell? ⟨w.heap.size, 3, none⟩ = some (.slice (some ⟨pb, po, none⟩) dn dc) ∧ W.cell? ⟨pb, po + m * 2, none⟩ = some (.int .i64 a.1) ∧ W.cell? ⟨pb, po + m * 2 + 1, none⟩ = some (.int .i64 a.2)) (by kernel_rfl) (⟨k0, d3, y0, y1⟩) (fun hHeld => ?_)
   refine tk 0 rfl ?_
   refine tk 1 rfl ?_
   refine tk 2 rfl ?_
   refine tk 3 rfl ?_
   refine tk 4 rfl ?_
   refine tk 5 rfl ?_
   refine tk 6 rfl ?_
   refine tk 7 rfl ?_
   refine tk 8 rfl ?_
   refine wpAnyH_ready (rs := [9]) (by kernel_rfl) (by simp) (AllReadyH.cons (o := { dst := some 23, op := Op.call { callee := Callee.value (Operand.func 20), args := #[Operand.tmp 17, Operand.tmp 22], argTypes := #[22, 25] }, type := 3, pos := "book.go:193", after := #[aD 3, aD 8], guard := none }) rfl (fun K hK => ?_) AllReadyH.nil)
   go_simp
   go_at_call 20
   refine Calls.mono EF ?_
   rintro e w9 ⟨⟨x, rfl, hx⟩, b9⟩
   go_wp2_with fail
   refine hK.out _ _ (keep4 (by assumption) b9) (fun hHeld9 => ?_)
   clear hK K
   try simp only [Act.put, nm]
   refine tk 10 rfl ?_
   refine wpAnyH_done (by kernel_rfl) ?_ _
   refine NoPanic.normal ?_
   have HX : Hid (FindP (l.map (·.c)) a x) := hx
   have HN1 : Hid (w9.heap[w.heap.size]? = some (.cells #[.int .i64 ca, .int .i64 cs, .int .i64 ct, .slice da dn dc, .slice oa on oc] 34) ∧ Below w.heap.size w w9) := ⟨heap_below HR.out.2.1 b9 (Nat.le_refl _), HR.out.2.2.trans (b9.mono HR.out.2.2.size)⟩
   clear hHeld hHeld9 k0 d3 y0 y1 EF b9 hx g1 g3 zg
   by_cases hneg : x < 0
   ·have HF : Hid (¬ Ready (l.map (·.c)) c) := fun hr => by
     obtain ⟨h, e⟩ := HM.out
     exact HX.out.neg.1 hneg (by rw [← e]; exact hr _ (List.getElem_mem h))
    go_wp2
    go_ret
    first | exact ⟨⟨_, rfl, (fun h => by cases h), fun h => absurd h HF.out⟩, HN1.out.2⟩ | exact ⟨Or.inl ⟨rfl, HF.out⟩, HN1.out.2⟩
   ·have HP : Hid (a ∈ refsOf (l.map (·.c))) := Classical.byContradiction fun h => hneg (HX.out.neg.2 h)
    go_upto_region 3 with fail
    have gm : (m : Int) < 8796093022208 := by obtain ⟨h, _⟩ := HM.out; have := HDN.out.2; omega
    go_wp2
    go_roundw
    case rel =>
     obtain ⟨h, e⟩ := HM.out
     refine ⟨m + 1, h, by go_num, fun j hj hjm => ?_, HN1.out⟩
     rcases Nat.lt_or_ge j m with h1 | h1
     ·exact HR.out.1 j hj h1
     ·obtain rfl : j = m := by omega
      rw [e]
      exact HP.out
    case measure => obtain ⟨h, _⟩ := HM.out; simp [RowKit.intOf]; omega
  ·have hme : ¬ (m : Int) < dn := by have := HDN.out.1; omega
   have HF : Hid (Ready (l.map (·.c)) c ∧ Below w.heap.size w wr) := ⟨fun d hd => by
    obtain ⟨j, hj, rfl⟩ := List.getElem_of_mem hd
    exact hR.out.1 j hj (by omega), hR.out.2.2⟩
   clear hlt hm hR
   go_wp2
   go_ret
   exact ⟨Or.inr ⟨rfl, HF.out.1⟩, HF.out.2⟩
end Go.Proofs.YtejfemdkommfhaaGreatDoor
namespace Go.Proofs.YtejfemdkommfhaaGreatDoor
open Go.RowKit Go.Sort
theorem mem_opsC {c : Chg} {q : OpM × Pr} : q ∈ opsC c ↔ ∃ k, ∃ h : k < c.ops.length, q = (c.ops[k], (c.start + (k : Int), c.actor)) := by
 unfold opsC
 constructor
 ·intro h
  obtain ⟨p, hp, rfl⟩ := List.mem_map.1 h
  obtain ⟨h1, h2⟩ := List.mem_zipIdx' hp
  exact ⟨p.2, h1, by rw [h2]⟩
 ·rintro ⟨k, hk, rfl⟩
  refine List.mem_map.2 ⟨(c.ops[k], k), ?_, rfl⟩
  rw [List.mem_iff_getElem?]
  exact ⟨k, by rw [List.getElem?_zipIdx, List.getElem?_eq_getElem hk]; simp⟩
theorem mem_opsK {S : List Chg} {q : OpM × Pr} : q ∈ opsK S ↔ ∃ x ∈ S, q ∈ opsC x := by unfold opsK; exact List.mem_flatMap
theorem num_ops {L : List Chg} {D : List Pr} {c : Chg} : (∀ q ∈ opsK (subL L D), q.2.1 < c.start) ↔ NumOk L D c := by
 constructor
 ·intro h x hx hr ho
  have hp : 0 < x.ops.length := List.length_pos_iff.2 ho
  have := h (x.ops[x.ops.length - 1]'(by omega), (x.start + ((x.ops.length - 1 : Nat) : Int), x.actor)) (mem_opsK.2 ⟨x, mem_subL.2 ⟨hx, hr⟩, mem_opsC.2 ⟨x.ops.length - 1, by omega, rfl⟩⟩)
  simp only at this
  omega
 ·intro h q hq
  obtain ⟨x, hx, hq⟩ := mem_opsK.1 hq
  obtain ⟨k, hk, rfl⟩ := mem_opsC.1 hq
  obtain ⟨h1, h2⟩ := mem_subL.1 hx
  have := h x h1 h2 (fun e => by rw [e] at hk; simp at hk)
  simp only
  omega
theorem known_own {L : List Chg} {D : List Pr} {c : Chg} {i : Nat} {f : CX → List OV} {l : List CX} {lo : List OV} (hL : l.map (·.c) = L) (hf : ∀ x ∈ l, (f x).map (·.1) = x.c.ops) (ho : lo.map (·.1) = c.ops) : lkK (keM (kall f D l ++ kes c (lo.take i))) = lkc (subL L D ++ [cutC c i]) := by
 funext a
 have e1 : keM (kes c (lo.take i)) = opsC (cutC c i) := keM_kes (cutC c i) (lo.take i) (by rw [List.map_take, ho]; rfl)
 rw [keM_append, keM_kall f D l hf, e1, hL, ← lkK_opsK]
 unfold opsK
 rw [List.flatMap_append]
 simp
theorem kes_snoc (c : Chg) (lo : List OV) (i : Nat) (h : i < lo.length) : kes c (lo.take (i + 1)) = kes c (lo.take i) ++ [(lo[i], (c.start + (i : Int), c.actor))] := by
 unfold kes
 rw [take_snocE lo i h, List.zipIdx_append, List.map_append]
 simp [List.length_take, Nat.min_eq_left (Nat.le_of_lt h)]
def SeqTo (O : List Pr) (c : Chg) (i : Nat) (b : Bool) : Prop := (∀ j (h : j < O.length), j < i → O[j].1 = c.actor → O[j].2 < c.seq) ∧ (b = true ↔ ∃ j, ∃ h : j < O.length, j < i ∧ O[j] = (c.actor, c.seq - 1))
theorem SeqTo.start (O : List Pr) (c : Chg) : SeqTo O c 0 false := ⟨fun _ _ h => absurd h (Nat.not_lt_zero _), ⟨(fun h => by cases h), fun ⟨_, _, h, _⟩ => absurd h (Nat.not_lt_zero _)⟩⟩
theorem SeqTo.other {O : List Pr} {c : Chg} {i : Nat} {b : Bool} (h : SeqTo O c i b) (hi : i < O.length) (hn : O[i].1 ≠ c.actor) : SeqTo O c (i + 1) b := by
 refine ⟨fun j hj hji ha => ?_, h.2.trans ⟨fun ⟨j, hj, hji, e⟩ => ⟨j, hj, by omega, e⟩, fun ⟨j, hj, hji, e⟩ => ?_⟩⟩
 ·rcases Nat.lt_or_ge j i with h1 | h1
  ·exact h.1 j hj h1 ha
  ·obtain rfl : j = i := by omega
   exact absurd ha hn
 ·rcases Nat.lt_or_ge j i with h1 | h1
  ·exact ⟨j, hj, h1, e⟩
  ·obtain rfl : j = i := by omega
   exact absurd (congrArg Prod.fst e) hn
theorem SeqTo.below {O : List Pr} {c : Chg} {i : Nat} {b : Bool} (h : SeqTo O c i b) (hi : i < O.length) (hl : O[i].2 < c.seq) (hn : O[i].2 ≠ c.seq - 1) : SeqTo O c (i + 1) b := by
 refine ⟨fun j hj hji ha => ?_, h.2.trans ⟨fun ⟨j, hj, hji, e⟩ => ⟨j, hj, by omega, e⟩, fun ⟨j, hj, hji, e⟩ => ?_⟩⟩
 ·rcases Nat.lt_or_ge j i with h1 | h1
  ·exact h.1 j hj h1 ha
  ·obtain rfl : j = i := by omega
   exact hl
 ·rcases Nat.lt_or_ge j i with h1 | h1
  ·exact ⟨j, hj, h1, e⟩
  ·obtain rfl : j = i := by omega
   exact absurd (congrArg Prod.snd e) hn
theorem SeqTo.just {O : List Pr} {c : Chg} {i : Nat} {b : Bool} (h : SeqTo O c i b) (hi : i < O.length) (ha : O[i].1 = c.actor) (he : O[i].2 = c.seq - 1) : SeqTo O c (i + 1) true := by
 refine ⟨fun j hj hji hb => ?_, ⟨fun _ => ⟨i, hi, by omega, Prod.ext ha he⟩, fun _ => rfl⟩⟩
 rcases Nat.lt_or_ge j i with h1 | h1
 ·exact h.1 j hj h1 hb
 ·obtain rfl : j = i := by omega
  omega
theorem SeqTo.done {O : List Pr} {c : Chg} {i : Nat} {b : Bool} (h : SeqTo O c i b) (hi : O.length ≤ i) : (1 < c.seq → b = true) ↔ SeqOk O c := by
 constructor
 ·intro hb
  refine ⟨fun s hs => ?_, fun h1 => ?_⟩
  ·obtain ⟨j, hj, e⟩ := List.getElem_of_mem hs
   have := h.1 j hj (by omega) (by rw [e])
   rw [e] at this
   exact this
  ·obtain ⟨j, hj, _, e⟩ := h.2.1 (hb h1)
   rw [← e]
   exact List.getElem_mem hj
 ·intro hs h1
  obtain ⟨j, hj, e⟩ := List.getElem_of_mem (hs.2 h1)
  exact h.2.2 ⟨j, hj, by omega, e⟩
theorem seq_bad {O : List Pr} {c : Chg} {i : Nat} (hi : i < O.length) (ha : O[i].1 = c.actor) (hs : c.seq ≤ O[i].2) : ¬ SeqOk O c := fun h => by
 have := h.1 O[i].2 (by rw [← ha]; exact List.getElem_mem hi)
 omega
open Classical in
theorem ops_choice {w : World} {v : Value} {l : List CX} (h : IsChgs w v l) : ∃ f : CX → List OV, ∀ x ∈ l, IsOps w x.uo (f x) ∧ (f x).map (·.1) = x.c.ops := by
 obtain ⟨a, cap, rfl, h1, h2, hr, h3⟩ := h
 have key : ∀ x : CX, ∃ lo : List OV, x ∈ l → IsOps w x.uo lo ∧ lo.map (·.1) = x.c.ops := fun x => by
  by_cases hx : x ∈ l
  ·obtain ⟨ud, uo, lo, e, _, _, _, _, ho, hm⟩ := hr x hx
   have e2 : x.uo = uo := by simp at e; exact e.2
   exact ⟨lo, fun _ => by rw [e2]; exact ⟨ho, hm⟩⟩
  ·exact ⟨[], fun h => absurd h hx⟩
 exact ⟨fun x => Classical.choose (key x), fun x hx => Classical.choose_spec (key x) hx⟩
end Go.Proofs.YtejfemdkommfhaaGreatDoor
