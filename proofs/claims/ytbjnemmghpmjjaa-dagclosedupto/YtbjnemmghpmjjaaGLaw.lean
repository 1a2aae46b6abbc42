/-
  What is proved: what the law of dag asks of the orders that All tells: each change once, behind all that it hangs on; the same twice. what the law of dag keeps while it goes over what All told: the book, the list, and the refs seen.
  Conditions: as each theorem says.
-/
import Derived.Test.YtbjnemmghpmjjaaDHeads
import Derived.Test.YtbjnemmghpmjjaaDSameC
import Derived.Test.YtbjnemmghpmjjaaDRefHas
namespace Go.Proofs.Ytbjnemmghpmjjaa
open Go.RowKit Go.Maps

/-- A book that is new. -/
theorem Bk.new {w : World} {g h q : Nat} (B : BookAt w g h q [] []) : Bk w g h q [] [] :=
  ⟨B, fun p hp => by simp at hp, fun pre p post he => by simp at he, by simp, fun r hr => by simp at hr⟩

/-- Of two with one ref, in a list where refs are apart, the changes are one. -/
theorem one_ref {E : List CE} (hn : (E.map (·.1.ref)).Nodup) : ∀ {p x : CE}, p ∈ E → x ∈ E → p.1.ref = x.1.ref → p = x := by
  induction E with
  | nil => intro p x hp; simp at hp
  | cons y E ih =>
    intro p x hp hx he
    simp only [List.map_cons, List.nodup_cons] at hn
    rcases List.mem_cons.1 hp with rfl | hp'
    · rcases List.mem_cons.1 hx with rfl | hx'
      · rfl
      · exact absurd (List.mem_map.2 ⟨x, hx', he.symm⟩) hn.1
    · rcases List.mem_cons.1 hx with rfl | hx'
      · exact absurd (List.mem_map.2 ⟨p, hp', he⟩) hn.1
      · exact ih hn.2 hp' hx' he

theorem depE_one {E : List CE} (hn : (E.map (·.1.ref)).Nodup) {p : CE} (hp : p ∈ E) : depE E p.1.ref = p.1.deps := by
  unfold depE
  cases hf : E.find? fun x => x.1.ref == p.1.ref with
  | none =>
    have := List.find?_eq_none.1 hf p hp
    simp at this
  | some x =>
    have h1 := List.mem_of_find?_eq_some hf
    have h2 := List.find?_some hf
    have h3 : x = p := one_ref hn h1 hp (by simpa using h2)
    rw [h3]
    rfl

/-- What All tells is told alike each time. -/
theorem tell_same {EH : List CE} (hn : (EH.map (·.1.ref)).Nodup) {ts ts' D D' : List Pr} {es es' : List CE}
    (p1 : ts.Perm (EH.map (·.1.ref))) (p2 : ts'.Perm (EH.map (·.1.ref))) (r1 : Rise ts) (r2 : Rise ts')
    (o1 : ordN EH ts ts.length = (D, [])) (o2 : ordN EH ts' ts'.length = (D', []))
    (e1 : es.map (·.1.ref) = D) (e2 : es'.map (·.1.ref) = D')
    (m1 : ∀ p ∈ es, ∃ u, (p.1, u) ∈ EH) (m2 : ∀ p ∈ es', ∃ u, (p.1, u) ∈ EH) : es.map (·.1) = es'.map (·.1) := by
  have ht : ts = ts' := rise_unique (p1.trans p2.symm) r1 r2
  subst ht
  rw [o1] at o2
  injection o2 with hD _
  subst hD
  have he : es.map (·.1.ref) = es'.map (·.1.ref) := e1.trans e2.symm
  clear e1 e2 o1 p1 p2 r1 r2
  induction es generalizing es' with
  | nil => cases es' with
    | nil => rfl
    | cons x l => simp at he
  | cons y es ih =>
    cases es' with
    | nil => simp at he
    | cons x l =>
      simp only [List.map_cons, List.cons.injEq] at he ⊢
      obtain ⟨u, hu⟩ := m1 y (List.mem_cons_self ..)
      obtain ⟨u', hu'⟩ := m2 x (List.mem_cons_self ..)
      have := one_ref hn hu hu' he.1
      exact ⟨by injection this, ih (fun p hp => m1 p (List.mem_cons_of_mem _ hp)) (fun p hp => m2 p (List.mem_cons_of_mem _ hp)) he.2⟩

/-- The refs of the first k told. -/
def seenK (es : List CE) (k : Nat) : List Pr := (es.take k).map (·.1.ref)

theorem seenK_succ {es : List CE} {k : Nat} (hk : k < es.length) : seenK es (k + 1) = seenK es k ++ [es[k].1.ref] := by
  unfold seenK
  rw [List.take_succ_eq_append_getElem hk, List.map_append]
  rfl

/-- None is told twice, and each is told behind what it hangs on. -/
theorem tell_ok {EH : List CE} (hn : (EH.map (·.1.ref)).Nodup) {D : List Pr} {es : List CE} (ok : OrdOk EH D [])
    (e1 : es.map (·.1.ref) = D) (m1 : ∀ p ∈ es, ∃ u, (p.1, u) ∈ EH) {k : Nat} (hk : k < es.length) :
    es[k].1.ref ∉ seenK es k ∧ ∀ d ∈ es[k].1.deps, d ∈ seenK es k := by
  have hs : es = es.take k ++ es[k] :: es.drop (k + 1) := by
    rw [← List.drop_eq_getElem_cons hk, List.take_append_drop]
  have hD : D = seenK es k ++ es[k].1.ref :: (es.drop (k + 1)).map (·.1.ref) := by
    rw [← e1]
    unfold seenK
    conv => lhs; rw [hs]
    rw [List.map_append, List.map_cons]
  have hnd : D.Nodup := by
    have := ok.perm
    rw [List.append_nil] at this
    exact this.nodup_iff.2 hn
  refine ⟨fun hm => ?_, fun d hd => ?_⟩
  · rw [hD, List.nodup_append] at hnd
    exact hnd.2.2 _ hm _ (List.mem_cons_self ..) rfl
  · obtain ⟨u, hu⟩ := m1 es[k] (List.getElem_mem hk)
    refine ok.dep _ _ _ hD d ?_
    have := depE_one hn hu
    rw [this]
    exact hd

theorem tell_len {EH : List CE} {D : List Pr} {es : List CE} (ok : OrdOk EH D []) (e1 : es.map (·.1.ref) = D) : es.length = EH.length := by
  have := ok.perm.length_eq
  rw [List.append_nil, ← e1] at this
  simpa using this

theorem IsChgs.keep {S : List Nat} {w w' : World} {v : Value} {l : List CX} (h : IsChgs w v l) (k : Kp S w w') (hn : NoCells w S) : IsChgs w' v l := by
  obtain ⟨a, cap, rfl, h1, h2, hr, h3⟩ := h
  refine ⟨a, cap, rfl, h1, h2, fun x hx => ?_, fun hl => ?_⟩
  · obtain ⟨ud, uo, m, g1, g2, g3, g4, g5, g6, g7⟩ := hr x hx
    exact ⟨ud, uo, m, g1, g2, g3, g4, g5.keep k hn, g6.keep k hn, g7⟩
  · obtain ⟨b, off, rfl, h4, h5⟩ := h3 hl
    have hb : b ∉ S := fun e => by
      have h6 := h5 0 (List.length_pos_iff.2 hl) 0 (by decide)
      rw [hn b e] at h6
      simp at h6
    exact ⟨b, off, rfl, Nat.lt_of_lt_of_le h4 k.size, fun i hi j hj => by rw [k.cell (p := ⟨b, off + i * 5 + j, none⟩) h4 hb]; exact h5 i hi j hj⟩
end Go.Proofs.Ytbjnemmghpmjjaa

namespace Go.Proofs.Ytbjnemmghpmjjaa
open Go.RowKit Go.Maps

/-- One ref more behind a row of refs. -/
theorem run_appR (ty : TypeId) (W : World) (B : Nat) (hB : B ≤ W.heap.size) (v : Value) (r : Pr) (rs : List Pr) (h : RowPr 34 B v rs W) (hl : rs.length ≤ 1000000) (x : Nat) (hx : W.heap[x]? = some (.cells #[.int .i64 r.1, .int .i64 r.2] 34)) :
    ∃ v' W', (Builtin.append_ #[28, 28] ty #[v, .slice (some ⟨x, 0, none⟩) 1 1]).run Try.prog W = .ok v' W' ∧ RowPr 34 B v' (rs ++ [r]) W' ∧ W.grownBy W' v.ownBlock := by
  obtain ⟨i0, hi0, hz0, hz1, hz2⟩ := info_parts infoR
  obtain ⟨v', W', h1, h2, h3, _⟩ := run_append_own (P := Try.prog) W B 28 ty 34 i0 _ 2 _ Try.underlying28 hi0 hz0 hz1 hz2 rfl (by decide) v rs.length _ h ⟨x, 0, none⟩ 1 1 [.int .i64 r.1, .int .i64 r.2] rfl (fun j y hj => by
    have ea : (⟨x, 0, none⟩ : Addr).add j = ⟨x, j, none⟩ := by unfold Addr.add; split <;> simp_all
    rw [ea]
    simp [World.cell?, hx]
    exact hj) (by simp [Value.oneCell']) (by unfold maxLen; omega) (by omega) hB
  refine ⟨v', W', h1, ?_, h3⟩
  show World.ownsRow _ _ _ _ _ _ _
  rw [pcells_append, List.length_append]
  exact h2

theorem rowPr_kp {T : TypeId} {B : Nat} {S : List Nat} {v : Value} {p : List Pr} {w w' : World} (h : RowPr T B v p w) (k : Kp S w w') (hS : ∀ b ∈ S, b < B) : RowPr T B v p w' := by
  refine ⟨h.1, ?_⟩
  rcases h.2 with hn | ⟨g, cap, cur, hv, hb, hg, rest⟩
  · exact .inl hn
  · exact .inr ⟨g, cap, cur, hv, hb, k.heap hg (fun e => by have := hS g e; omega), rest⟩

/-- A book whose maps hold what they held, where nothing else of old was touched. -/
theorem Bk.back {w w' : World} {g h q : Nat} {EH EW : List CE} (B : Bk w g h q EH EW) (k : Kp [h, q] w w') (mh : MapL w' h (ents EH)) (mq : MapL w' q (ents EW)) : Bk w' g h q EH EW := by
  have nc := B.noCells
  refine ⟨⟨k.heap B.book.box (fun e => ?_), mh, mq, B.book.ne⟩, fun p hp => ⟨(B.chgs p hp).1.keep k nc, (B.chgs p hp).2⟩, B.clo, B.many, B.dis⟩
  have h1 := nc g e 0
  have h2 : w.cell? ⟨g, 0, none⟩ = some (.map (some h)) := Lib.cell_of_heap B.book.box 0
  rw [h1] at h2
  cases h2

/-- What the law keeps of an append: a row of its own grew. -/
theorem Kp.row {S : List Nat} {B : Nat} {T : TypeId} {v : Value} {p : List Pr} {w W W' : World} (k : Kp S w W) (hB : w.heap.size ≤ B) (r : RowPr T B v p W) (hg : W.grownBy W' v.ownBlock) : Kp S w W' := by
  refine ⟨hg.os.trans k.os, hg.tape.trans k.tape, hg.output.trans k.output, Nat.le_trans k.size hg.size, fun b hb hS => ?_⟩
  rw [hg.block b (Nat.lt_of_lt_of_le hb k.size) (fun e => by have := (r.lt b e.symm).1; omega)]
  exact k.block b hb hS
end Go.Proofs.Ytbjnemmghpmjjaa
