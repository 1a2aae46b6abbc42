/-
  What is proved: what package dag's wake does: what waits comes to be in the book, or is dropped, and all that the book has still hangs together.
  Conditions: the book lies in memory.
-/
import Derived.Test.YtbjnemmghpmjjaaDFits
import Derived.Deep.LoopGhost
import Derived.Deep.RegionLaw
namespace Go.Proofs.Ytbjnemmghpmjjaa
open Go.RowKit Go.Maps

theorem nodup_ents {w : World} {g h q : Nat} {EH EW : List CE} (B : Bk w g h q EH EW) : (EH.map (·.1.ref)).Nodup ∧ (EW.map (·.1.ref)).Nodup := by
  have h1 := B.book.has.nd
  have h2 := B.book.wait.nd
  rw [ents_keys] at h1 h2
  exact ⟨h1, h2⟩

/-- The entries without one. -/
def dropE (E : List CE) (r : Pr) : List CE := E.filter fun p => p.1.ref != r

theorem ents_drop (E : List CE) (r : Pr) : ents (dropE E r) = (ents E).filter fun q => q.1 != r := by
  unfold ents dropE
  rw [List.filter_map]
  rfl
theorem dropE_len (E : List CE) (r : Pr) (h : r ∈ E.map (·.1.ref)) : (dropE E r).length < E.length := by
  have : ∃ p ∈ E, ¬ (p.1.ref != r) = true := by
    obtain ⟨p, hp, e⟩ := List.mem_map.1 h
    exact ⟨p, hp, by simp [e]⟩
  rcases Nat.lt_or_ge (dropE E r).length E.length with h1 | h1
  · exact h1
  · have h2 := List.length_filter_le (fun p : CE => p.1.ref != r) E
    have h3 : (E.filter fun p : CE => p.1.ref != r).length = E.length := Nat.le_antisymm h2 h1
    obtain ⟨p, hp, hn⟩ := this
    exact absurd ((List.length_filter_eq_length_iff.1 h3) p hp) hn

/-- A change is taken out of those that wait. -/
theorem Bk.drop {w w' : World} {g h q : Nat} {EH EW : List CE} (B : Bk w g h q EH EW) (r : Pr) (hM : MapL w' q ((ents EW).filter fun x => x.1 != r)) (ht : w.mapTurned w' q) : Bk w' g h q EH (dropE EW r) := by
  have kp := Kp.turned ht
  have nc : NoCells w [q] := noCells_map B.book.wait
  refine ⟨⟨kp.heap B.book.box ?_, B.book.has.kp kp (by simpa using B.book.ne), by rw [ents_drop]; exact hM, B.book.ne⟩, fun p hp => ?_, B.clo, ?_, ?_⟩
  · intro e
    simp at e
    have h1 := nc g (by simp [e]) 0
    rw [Lib.cell_of_heap B.book.box 0] at h1
    cases h1
  · have hp' : p ∈ EH ++ EW := by
      rcases List.mem_append.1 hp with e | e
      · exact List.mem_append_left _ e
      · exact List.mem_append_right _ (List.mem_filter.1 e).1
    exact ⟨(B.chgs p hp').1.keep kp nc, (B.chgs p hp').2⟩
  · have := List.length_filter_le (fun p : CE => p.1.ref != r) EW
    have := B.many
    unfold dropE
    omega
  · intro x hx
    obtain ⟨p, hp, rfl⟩ := List.mem_map.1 hx
    exact B.dis _ (List.mem_map.2 ⟨p, (List.mem_filter.1 hp).1, rfl⟩)

/-- A change comes to be in the book. -/
theorem Bk.come {w w' : World} {g h q : Nat} {EH EW : List CE} (B : Bk w g h q EH EW) (c : Chg) (v : Value) (hv : IsChgW w v c) (hc : chk c = 0) (hd : ∀ d ∈ c.deps, d ∈ EH.map (·.1.ref)) (hn : c.ref ∉ EH.map (·.1.ref)) (hn' : c.ref ∉ EW.map (·.1.ref)) (hm : EH.length + EW.length < 120) (hM : MapL w' h (putL (ents EH) c.ref v)) (ht : w.mapTurned w' h) : Bk w' g h q (EH ++ [(c, v)]) EW := by
  have kp := Kp.turned ht
  have nc : NoCells w [h] := noCells_map B.book.has
  have hl : lk (ents EH) c.ref = none := by
    cases hk : lk (ents EH) c.ref with
    | none => rfl
    | some u => exact absurd (mem_keys.2 (by rw [hk]; rfl)) hn
  refine ⟨⟨kp.heap B.book.box ?_, ?_, B.book.wait.kp kp (by simpa using B.book.ne.symm), B.book.ne⟩, fun p hp => ?_, clo_snoc B.clo hd, ?_, ?_⟩
  · intro e
    simp at e
    have h1 := nc g (by simp [e]) 0
    rw [Lib.cell_of_heap B.book.box 0] at h1
    cases h1
  · rw [ents_append]
    rw [putL_new hl] at hM
    exact hM
  · have hp' : p ∈ EH ++ EW ∨ p = (c, v) := by
      rcases List.mem_append.1 hp with e | e
      · rcases List.mem_append.1 e with e | e
        · exact Or.inl (List.mem_append_left _ e)
        · exact Or.inr (List.mem_singleton.1 e)
      · exact Or.inl (List.mem_append_right _ e)
    rcases hp' with e | rfl
    · exact ⟨(B.chgs p e).1.keep kp nc, (B.chgs p e).2⟩
    · exact ⟨hv.keep kp nc, hc⟩
  · simp
    omega
  · intro x hx e
    rw [List.map_append] at e
    rcases List.mem_append.1 e with e | e
    · exact B.dis x hx e
    · simp at e
      exact hn' (by rw [← e]; exact hx)

/-- A change waits. -/
theorem Bk.wait' {w w' : World} {g h q : Nat} {EH EW : List CE} (B : Bk w g h q EH EW) (c : Chg) (v : Value) (hv : IsChgW w v c) (hc : chk c = 0) (hn : c.ref ∉ EW.map (·.1.ref)) (hn' : c.ref ∉ EH.map (·.1.ref)) (hm : EH.length + EW.length < 120) (hM : MapL w' q (putL (ents EW) c.ref v)) (ht : w.mapTurned w' q) : Bk w' g h q EH (EW ++ [(c, v)]) := by
  have kp := Kp.turned ht
  have nc : NoCells w [q] := noCells_map B.book.wait
  have hl : lk (ents EW) c.ref = none := by
    cases hk : lk (ents EW) c.ref with
    | none => rfl
    | some u => exact absurd (mem_keys.2 (by rw [hk]; rfl)) hn
  refine ⟨⟨kp.heap B.book.box ?_, B.book.has.kp kp (by simpa using B.book.ne), ?_, B.book.ne⟩, fun p hp => ?_, B.clo, ?_, ?_⟩
  · intro e
    simp at e
    have h1 := nc g (by simp [e]) 0
    rw [Lib.cell_of_heap B.book.box 0] at h1
    cases h1
  · rw [ents_append]
    rw [putL_new hl] at hM
    exact hM
  · have hp' : p ∈ EH ++ EW ∨ p = (c, v) := by
      rcases List.mem_append.1 hp with e | e
      · exact Or.inl (List.mem_append_left _ e)
      · rcases List.mem_append.1 e with e | e
        · exact Or.inl (List.mem_append_right _ e)
        · exact Or.inr (List.mem_singleton.1 e)
    rcases hp' with e | rfl
    · exact ⟨(B.chgs p e).1.keep kp nc, (B.chgs p e).2⟩
    · exact ⟨hv.keep kp nc, hc⟩
  · simp
    omega
  · intro x hx e
    rw [List.map_append] at hx
    rcases List.mem_append.1 hx with hx | hx
    · exact B.dis x hx e
    · simp at hx
      exact hn' (by rw [← hx]; exact e)

/-- A delete whose end is known, at a step of a region that draws. -/
theorem step_delete_known {ops : Array Oper} {o : Oper} {a : Act} {w : World} {K : Act → World → Prop} {Q : Exit → Act → World → Prop} {E : Prop} (hgd : o.guard = none) (s x : Operand) (T k : TypeId)
    (ho : o.op = .call { callee := .builtin .delete, args := #[s, x], argTypes := #[T, k] }) (v u r : Value) (w' : World) (hs : a.eval s = v) (hx : a.eval x = u)
    (hrun : (Builtin.delete_ #[T, k] o.type #[v, u]).run Try.prog w = .ok r w') (hK : K (a.put o.dst r) w') : if Region.wanted o (yielded ops a.tmps) = true then Oper.wp Try.prog o a w K Q else E := by
  have hw : Region.wanted o (yielded ops a.tmps) = true := by simp [Region.wanted, hgd]
  rw [if_pos hw]
  unfold Oper.wp
  simp [execOp, ho, resolve, invoke, builtin, hs, hx, hrun, Result.andThen]
  exact hK

/-- What wake does. -/
def WakeP (w : World) (g h q : Nat) (EH : List CE) (w' : World) : Prop := ∃ EH' EW', Bk w' g h q EH' EW' ∧ EH <+: EH' ∧ Kp [h, q] w w'

set_option maxRecDepth 100000 in
set_option maxHeartbeats 8000000 in
theorem wake_any (w : World) (g h q : Nat) (EH EW : List CE) (B : Bk w g h q EH EW) :
    Calls Try.prog 19 #[.pointer (some ⟨g, 0, none⟩)] w fun e w' => e = .returned (.tuple #[]) ∧ WakeP w g h q EH w' := by
  have HA : Hid (Bk w g h q EH EW) := B
  clear B
  go_enter Try.func19, Try.ntmps19
  go_wp2
  go_step3
  go_wp2
  go_step3
  go_wp2
  go_loopg [] EW.length (fun gk wr => Hid (∃ EH' EW', EW'.length ≤ gk ∧ Bk wr g h q EH' EW' ∧ EH <+: EH' ∧ Kp [h, q] w wr))
  case atStart => exact ⟨EH, EW, Nat.le_refl _, HA.out, List.prefix_refl _, Kp.refl _ _⟩
  case round =>
    clear HA
    obtain ⟨EH1, EW1, hgk, hB, hpre, hkp⟩ := hrel.out
    clear hrel
    obtain ⟨go, hgo⟩ : ∃ x : Nat, Hid (x = gk) := ⟨_, rfl⟩
    have E0 := waiting_any g h q (ents EH1) (ents EW1) wr hB.book (by rw [ents_len]; have := hB.many; omega)
    have HB : Hid (_ ∧ _ ∧ _ ∧ _) := ⟨hgk, hB, hpre, hkp⟩
    clear hgk hB hpre hkp
    go_wp2_with fail
    go_fit E0
    rintro e w1 ⟨v, ts, rfl, q1, q2, q3, q4⟩
    have hB1 : Bk w1 g h q EH1 EW1 := HB.out.2.1.below q4
    have hP : IsPairs w1 v ts := by
      refine RowPr.pairs q3 ?_ (fun r hr => ?_)
      · have := q1.length_eq
        have := HB.out.2.1.many
        rw [List.length_map, ents_len] at *
        omega
      · have : r ∈ (ents EW1).map (·.1) := q1.mem_iff.1 hr
        obtain ⟨x, hx, rfl⟩ := List.mem_map.1 this
        exact HB.out.2.1.book.wait.r64 x hx
    obtain ⟨va, vc, rfl, p1, p2, p3, p4⟩ := hP
    have HP : Hid (ts ≠ [] → ∃ b off, va = some ⟨b, off, none⟩ ∧ _) := p4
    have HR : Hid (_ ∧ _ ∧ _ ∧ _ ∧ _) := ⟨hB1, q1, p3, HB.out.2.2.2.trans (Kp.of q4), p2⟩
    clear q1 q2 q3 q4 hB1 p1 p2 p3 p4 E0
    go_wp2_with fail
    go_loopg [8] ts.length (fun gk i wq => ∃ k : Nat, k + gk = ts.length ∧ i = .int .i64 k ∧ Hid (Below w1.heap.size w1 wq))
    case atStart => exact ⟨0, by omega, rfl, Below.refl _ _⟩
    case round =>
      obtain ⟨k, hk, rfl, hb⟩ := hrel
      by_cases hlt : k < ts.length
      · obtain ⟨b, off, rfl, h4, h5⟩ := HP.out (fun e => by rw [e] at hlt; simp at hlt)
        have x0 : wr.cell? ⟨b, off + k * 2, none⟩ = some (.int .i64 ts[k].1) := by rw [hb.out.cell (p := ⟨b, off + k * 2, none⟩) h4]; exact (h5 k hlt).1
        have x1 : wr.cell? ⟨b, off + k * 2 + 1, none⟩ = some (.int .i64 ts[k].2) := by rw [hb.out.cell (p := ⟨b, off + k * 2 + 1, none⟩) h4]; exact (h5 k hlt).2
        have g1 : (k : Int) < ts.length := by omega
        have g2 : (k : Int) < 1000000 := by
          have := HR.out.2.1.length_eq
          have := HB.out.2.1.many
          rw [List.length_map, ents_len] at *
          omega
        have h64 : R64 ts[k] := HR.out.2.2.1 _ (List.getElem_mem hlt)
        have hin : ts[k] ∈ EW1.map (·.1.ref) := by
          have := HR.out.2.1.mem_iff.1 (List.getElem_mem hlt)
          rw [ents_keys] at this
          exact this
        obtain ⟨r, hq⟩ : ∃ q : Pr, ts[k] = q := ⟨_, rfl⟩
        rw [hq] at x0 x1 h64 hin
        obtain ⟨p, hp, hpr, hpv, _⟩ := ent_of hin
        have HK : Hid (k + gk = ts.length ∧ k < ts.length) := ⟨hk, hlt⟩
        have bA := (Below.refl wr.heap.size wr).alloc (Nat.le_refl _) (.cells #[.int .i64 r.1, .int .i64 r.2] 34)
        have N := heap_alloc_new wr (.cells #[.int .i64 r.1, .int .i64 r.2] 34)
        have bW : Below w1.heap.size w1 (wr.alloc (.cells #[.int .i64 r.1, .int .i64 r.2] 34)) := hb.out.trans (bA.mono hb.out.size)
        have HW : Hid (_ ∧ _ ∧ _) := ⟨HR.out.1.below bW, N, bW⟩
        have Hp : Hid (p ∈ EW1 ∧ p.1.ref = r ∧ entV (ents EW1) r = p.2) := ⟨hp, hpr, hpv⟩
        clear h5 hk hlt hb hq hin hp hpr hpv bA N bW
        go_upto_region 3 with fail
        obtain ⟨W, hW⟩ : ∃ W, W = wr.alloc (.cells #[.int .i64 r.1, .int .i64 r.2] 34) := ⟨_, rfl⟩
        rw [← hW] at HW ⊢
        obtain ⟨hBW, N, bW⟩ := HW.out
        clear HW
        have hs : Hid (W.heap.size = wr.heap.size + 1) := by show _ = _; rw [hW]; simp
        clear hW x0 x1
        have c1 : W.cell? ⟨g, 1, none⟩ = some (.map (some q)) := Lib.cell_of_heap hBW.book.box 1
        have c5 : W.cell? ⟨wr.heap.size, 0, none⟩ = some (.int .i64 r.1) := Lib.cell_of_heap N 0
        have c6 : W.cell? ⟨wr.heap.size, 1, none⟩ = some (.int .i64 r.2) := Lib.cell_of_heap N 1
        have s1 := lt_of_heap hBW.book.box
        have s2 := lt_of_heap N
        obtain ⟨hchg, hchk⟩ := hBW.chgs p (List.mem_append_right _ Hp.out.1)
        have hcv := hchg.cv
        have hl := MapL.look1 (w := W.drew) ⟨hBW.book.wait.own, hBW.book.wait.nd, hBW.book.wait.r64⟩ Try.underlying41 (zeroC _) h64
        have B2 := hBW.book.wait.below ((Below.refl W.heap.size W).alloc (Nat.le_refl _) (.cells #[.int .i64 0, .int .i64 0, .int .i64 0, .slice none 0 0, .slice none 0 0] 31))
        have hl2 := MapL.look1 (w := (W.alloc (.cells #[.int .i64 0, .int .i64 0, .int .i64 0, .slice none 0 0, .slice none 0 0] 31)).drew) ⟨B2.own, B2.nd, B2.r64⟩ Try.underlying41 (zeroC _) h64
        have hent : (lk (ents EW1) r).getD zC = p.2 := Hp.out.2.2
        rw [hent] at hl hl2
        have HC : Hid (_ ∧ _ ∧ _ ∧ _ ∧ _) := ⟨hBW, N, bW, hchg, hchk⟩
        obtain ⟨ud, uo, lo, e1, e2, e3, e4, e5, e6⟩ := hchg
        obtain ⟨da, dc, rfl, _⟩ := id e3
        obtain ⟨oa, oc, rfl, _⟩ := id e4
        rw [e1] at hl hl2 HC
        clear hent B2 hcv hBW N bW e1 e2 e3 e4 e5 e6 hchk
        go_region
        all_goals
          have bX := drew_of ((Below.refl W.heap.size W).alloc (Nat.le_refl _) (.cells #[.int .i64 p.1.actor, .int .i64 p.1.seq, .int .i64 p.1.start, .slice da p.1.deps.length dc, .slice oa lo.length oc] 31))
          have X := show (W.alloc (.cells #[.int .i64 p.1.actor, .int .i64 p.1.seq, .int .i64 p.1.start, .slice da p.1.deps.length dc, .slice oa lo.length oc] 31)).drew.heap[W.heap.size]? = _ from heap_alloc_new W _
          have hBV := HC.out.1.below bX
          have NV := heap_below HC.out.2.1 bX (Nat.le_refl _)
          have bV := HC.out.2.2.1.trans (bX.mono HC.out.2.2.1.size)
          have chgV := HC.out.2.2.2.1.below bX
          have hchk := HC.out.2.2.2.2
          clear HC hl hl2 c1 c5 c6 s1 s2 bX
          generalize (W.alloc (.cells #[.int .i64 p.1.actor, .int .i64 p.1.seq, .int .i64 p.1.start, .slice da p.1.deps.length dc, .slice oa lo.length oc] 31)).drew = V at *
          have x3 : V.cell? ⟨W.heap.size, 3, none⟩ = some (.slice da p.1.deps.length dc) := Lib.cell_of_heap X 3
          have hdp : IsPairs V (.slice da p.1.deps.length dc) p.1.deps := by
            obtain ⟨ud, uo, lo', e1, _, e3, _⟩ := id chgV
            simp at e1
            rw [e1.1]
            exact e3
          have s3 := lt_of_heap X
          have E1 := hasAll_any g h q (ents EH1) (ents EW1) _ p.1.deps V hBV.book hdp hBV.cvH
          obtain ⟨hbb, hhb⟩ : ∃ b : Bool, Hid (b = hasL (ents EH1) p.1.deps) := ⟨_, rfl⟩
          rw [← hhb.out] at E1
          have HV : Hid (_ ∧ _ ∧ _ ∧ _ ∧ _ ∧ _) := ⟨X, hBV, NV, bV, chgV, hchk⟩
          clear X hBV NV bV chgV hchk hdp
          cases hbb with
          | false =>
            go_wp2_with fail
            go_fit E1
            rintro e w2 ⟨rfl, b2⟩
            have HB2 : Hid (Below w1.heap.size w1 w2) := HV.out.2.2.2.1.trans (b2.mono HV.out.2.2.2.1.size)
            clear b2 E1 x3 s3
            go_wp2
            go_roundg (gk - 1)
            case measure => have := HK.out; omega
            case rel => exact ⟨k + 1, by have := HK.out; omega, by first | rfl | go_num | (congr 1; unfold wrap64; have := HK.out; omega), HB2.out⟩
          | true =>
            go_wp2_with fail
            go_fit E1
            rintro e w2 ⟨rfl, b2⟩
            have X2 := heap_below HV.out.1 b2 (Nat.le_refl _)
            have hB2 := HV.out.2.1.below b2
            have N2 := heap_below HV.out.2.2.1 b2 (Nat.le_refl _)
            have bb2 : Below w1.heap.size w1 w2 := HV.out.2.2.2.1.trans (b2.mono HV.out.2.2.2.1.size)
            have chg2 := HV.out.2.2.2.2.1.below b2
            have hchk := HV.out.2.2.2.2.2
            clear HV b2 E1 x3 s3
            have c1 : w2.cell? ⟨g, 1, none⟩ = some (.map (some q)) := Lib.cell_of_heap hB2.book.box 1
            have c5 : w2.cell? ⟨wr.heap.size, 0, none⟩ = some (.int .i64 r.1) := Lib.cell_of_heap N2 0
            have c6 : w2.cell? ⟨wr.heap.size, 1, none⟩ = some (.int .i64 r.2) := Lib.cell_of_heap N2 1
            obtain ⟨U, hdel, hMU, htU⟩ := MapL.del (w := w2.drew) ⟨hB2.book.wait.own, hB2.book.wait.nd, hB2.book.wait.r64⟩ Try.underlying41 h64 0
            have HU : Hid (_ ∧ _ ∧ _ ∧ _ ∧ _ ∧ _ ∧ _ ∧ _) := ⟨X2, hB2, N2, bb2, chg2, hchk, hMU, htU⟩
            clear X2 hB2 N2 bb2 chg2 hchk hMU htU
            go_upto_region 5 with fail
            go_region_law (refine step_delete_known rfl (.tmp 26) (.tmp 27) 41 34 rfl (.map (some q)) (refV r) _ U (by simp [Act.eval]) (by simp [Act.eval]) hdel ?_)
            all_goals
              obtain ⟨X2, hB2, N2, bb2, chg2, hchk, hMU, htU⟩ := HU.out
              clear HU c1 c5 c6 hdel
              have hBD : Bk w2.drew g h q EH1 EW1 := hB2.below (drew_of (Below.refl _ w2))
              have hBU := hBD.drop r hMU htU
              have kU := (Kp.of (S := [q]) (drew_of (Below.refl w2.heap.size w2))).trans (Kp.turned htU)
              have ncU : NoCells w2 [q] := noCells_map hB2.book.wait
              have notq : ∀ {k : Nat} {cs : Array Value} {T : TypeId} {x : Value}, w2.heap[k]? = some (.cells cs T) → cs[0]? = some x → k ∉ [q] := fun {k cs T x} hk hx e => by
                have h1 := ncU k e 0
                simp [World.cell?, hk, hx] at h1
              have XU := kU.heap X2 (notq X2 rfl)
              have NU := kU.heap N2 (notq N2 rfl)
              have chgU := chg2.keep kU ncU
              have kk : Kp [h, q] w U := (HR.out.2.2.2.1.trans (Kp.of bb2)).trans (kU.mono (by simp))
              have hd : ∀ d ∈ p.1.deps, d ∈ EH1.map (·.1.ref) := fun d hd => by
                have h1 := hhb.out
                unfold hasL at h1
                exact mem_keys.2 ((List.all_eq_true.1 h1.symm) d hd)
              have E2 := fits_any U g h q EH1 (dropE EW1 r) _ p.1 hBU chgU hchk hd
              have y0 : U.cell? ⟨W.heap.size, 0, none⟩ = some (.int .i64 p.1.actor) := Lib.cell_of_heap XU 0
              have y1 : U.cell? ⟨W.heap.size, 1, none⟩ = some (.int .i64 p.1.seq) := Lib.cell_of_heap XU 1
              have y2 : U.cell? ⟨W.heap.size, 2, none⟩ = some (.int .i64 p.1.start) := Lib.cell_of_heap XU 2
              have y3 : U.cell? ⟨W.heap.size, 3, none⟩ = some (.slice da p.1.deps.length dc) := Lib.cell_of_heap XU 3
              have y4 : U.cell? ⟨W.heap.size, 4, none⟩ = some (.slice oa lo.length oc) := Lib.cell_of_heap XU 4
              have s4 := lt_of_heap XU
              have HU2 : Hid (_ ∧ _ ∧ _ ∧ _ ∧ _ ∧ _ ∧ _) := ⟨XU, hBU, NU, chgU, hchk, kk, hd⟩
              clear X2 hB2 N2 bb2 chg2 hchk hMU htU hBD hBU kU ncU notq XU NU chgU kk hd
              go_wp2_with fail
              go_fit E2
              rintro e w3 ⟨⟨fb, rfl, _⟩, b3⟩
              have HW3 : Hid (Below U.heap.size U w3) := b3
              have HL : Hid ((dropE EW1 r).length < EW1.length) := dropE_len EW1 r (by rw [← Hp.out.2.1]; exact List.mem_map.2 ⟨p, Hp.out.1, rfl⟩)
              clear b3 E2 y0 y1 y2 y3 y4 s4
              cases fb with
              | false =>
                go_wp2
                go_roundg (go - 1)
                case measure => have := hgo.out; have := HL.out; have := HB.out.1; omega
                case rel => exact ⟨EH1, dropE EW1 r, by have := hgo.out; have := HL.out; have := HB.out.1; omega, HU2.out.2.1.below HW3.out, HB.out.2.2.1, HU2.out.2.2.2.2.2.1.trans (Kp.of HW3.out)⟩
              | true =>
                have hB3 := HU2.out.2.1.below HW3.out
                have X3 := heap_below HU2.out.1 HW3.out (Nat.le_refl _)
                have N3 := heap_below HU2.out.2.2.1 HW3.out (Nat.le_refl _)
                have chg3 := HU2.out.2.2.2.1.below HW3.out
                have c0 : w3.cell? ⟨g, 0, none⟩ = some (.map (some h)) := Lib.cell_of_heap hB3.book.box 0
                have c5 : w3.cell? ⟨wr.heap.size, 0, none⟩ = some (.int .i64 r.1) := Lib.cell_of_heap N3 0
                have c6 : w3.cell? ⟨wr.heap.size, 1, none⟩ = some (.int .i64 r.2) := Lib.cell_of_heap N3 1
                have y0 : w3.cell? ⟨W.heap.size, 0, none⟩ = some (.int .i64 p.1.actor) := Lib.cell_of_heap X3 0
                have y1 : w3.cell? ⟨W.heap.size, 1, none⟩ = some (.int .i64 p.1.seq) := Lib.cell_of_heap X3 1
                have y2 : w3.cell? ⟨W.heap.size, 2, none⟩ = some (.int .i64 p.1.start) := Lib.cell_of_heap X3 2
                have y3 : w3.cell? ⟨W.heap.size, 3, none⟩ = some (.slice da p.1.deps.length dc) := Lib.cell_of_heap X3 3
                have y4 : w3.cell? ⟨W.heap.size, 4, none⟩ = some (.slice oa lo.length oc) := Lib.cell_of_heap X3 4
                have many3 := hB3.many
                have hBD : Bk w3.drew g h q EH1 (dropE EW1 r) := hB3.below (drew_of (Below.refl _ w3))
                obtain ⟨Y, hput, hMY, htY⟩ := hBD.book.has.put Try.underlying41 h64 (by rw [ents_len]; omega) (.agg #[.int .i64 p.1.actor, .int .i64 p.1.seq, .int .i64 p.1.start, .slice da p.1.deps.length dc, .slice oa lo.length oc])
                have HY : Hid (Bk Y g h q (EH1 ++ [(p.1, (.agg #[.int .i64 p.1.actor, .int .i64 p.1.seq, .int .i64 p.1.start, .slice da p.1.deps.length dc, .slice oa lo.length oc]))]) (dropE EW1 r) ∧ Kp [h, q] w Y) := by
                  refine ⟨hBD.come p.1 _ (chg3.below (drew_of (Below.refl _ w3))) HU2.out.2.2.2.2.1 HU2.out.2.2.2.2.2.2 ?_ ?_ ?_ (by rw [Hp.out.2.1]; exact hMY) htY, ((HU2.out.2.2.2.2.2.1.trans (Kp.of HW3.out)).trans (Kp.of (drew_of (Below.refl w3.heap.size w3)))).trans ((Kp.turned htY).mono (by simp))⟩
                  · exact HR.out.1.dis _ (List.mem_map.2 ⟨p, Hp.out.1, rfl⟩)
                  · intro e
                    obtain ⟨x, hx, e⟩ := List.mem_map.1 e
                    have := (List.mem_filter.1 hx).2
                    simp [e, Hp.out.2.1] at this
                  · have := HL.out
                    have := HR.out.1.many
                    omega
                clear hB3 X3 N3 chg3 many3 hBD hMY htY
                go_wp2
                go_region
                all_goals
                  clear c0 c5 c6 y0 y1 y2 y3 y4 hput
                  go_wp2
                  go_roundg (go - 1)
                  case measure => have := hgo.out; have := HL.out; have := HB.out.1; omega
                  case rel => exact ⟨_, dropE EW1 r, by have := hgo.out; have := HL.out; have := HB.out.1; omega, HY.out.1, HB.out.2.2.1.trans (List.prefix_append _ _), HY.out.2⟩
      · have hke : k = ts.length := by omega
        have g1 : ¬ (k : Int) < ts.length := by omega
        have HX : Hid (WakeP w g h q EH wr) := ⟨EH1, EW1, HR.out.1.below hb.out, HB.out.2.2.1, HR.out.2.2.2.1.trans (Kp.of hb.out)⟩
        clear hlt hk hb hke
        go_wp2
        refine bodyPost_ret (results_none rfl _ _ _) rfl ?_
        exact ⟨rfl, HX.out⟩
end Go.Proofs.Ytbjnemmghpmjjaa
