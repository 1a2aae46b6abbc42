/-
  What is proved: what package dag's Heads answers: of a book that has something, something; of an empty one, nothing.
  Conditions: the book lies in memory.
-/
import Derived.Test.YtbjnemmghpmjjaaDDelF
import Derived.Maps.RangeWalk
import Derived.Laws.EntriesVeiled
namespace Go.Proofs.Ytbjnemmghpmjjaa
open Go.RowKit Go.Maps

/-- Refs on which something of a book hangs. -/
def Hung (EH : List CE) (L : List (Pr × Value)) : Prop := Ones L ∧ ∀ d ∈ L.map (·.1), ∃ p ∈ EH, d ∈ p.1.deps

theorem Hung.put {EH : List CE} {L : List (Pr × Value)} (h : Hung EH L) {p : CE} (hp : p ∈ EH) {d : Pr} (hd : d ∈ p.1.deps) : Hung EH (putL L d (.int .i64 1)) := by
  unfold putL
  refine ⟨fun x hx => ?_, fun r hr => ?_⟩
  · rcases List.mem_append.1 hx with e | e
    · exact h.1 x (List.mem_filter.1 e).1
    · rw [List.mem_singleton.1 e]
  · rw [List.map_append] at hr
    rcases List.mem_append.1 hr with e | e
    · obtain ⟨x, hx, rfl⟩ := List.mem_map.1 e
      exact h.2 _ (List.mem_map.2 ⟨x, (List.mem_filter.1 hx).1, rfl⟩)
    · simp at e
      subst e
      exact ⟨p, hp, hd⟩

/-- The last change of a book is hung on by none. -/
theorem last_free {EH : List CE} {p : CE} (hc : Clo (EH ++ [p])) (hn : ((EH ++ [p]).map (·.1.ref)).Nodup) : ∀ x ∈ EH ++ [p], p.1.ref ∉ x.1.deps := fun x hx hd => by
  obtain ⟨pre, post, he⟩ := List.append_of_mem hx
  have h1 := hc pre x post he _ hd
  rw [he] at hn
  have hlast : p.1.ref ∈ (x :: post).map (·.1.ref) := by
    rcases List.eq_nil_or_concat post with rfl | ⟨q, b, rfl⟩
    · have h2 := (List.append_inj' he rfl).2
      simp at h2
      rw [h2]; simp
    · have h3 : EH ++ [p] = (pre ++ x :: q) ++ [b] := by rw [he]; simp
      have h2 := (List.append_inj' h3 rfl).2
      simp at h2
      rw [h2]; simp
  rw [List.map_append, List.nodup_append] at hn
  exact hn.2.2 _ h1 _ hlast rfl

theorem hung_few {EH : List CE} {L : List (Pr × Value)} (h : Hung EH L) (hn : (L.map (·.1)).Nodup) (hc : ∀ p ∈ EH, p.1.deps.length ≤ 12) (hm : EH.length ≤ 120) : L.length < 1000000 := by
  have h1 := nodup_len (K := EH.flatMap fun p => p.1.deps) hn (fun x hx => by
    obtain ⟨p, hp, hd⟩ := h.2 x hx
    exact List.mem_flatMap.2 ⟨p, hp, hd⟩)
  have h2 : (EH.flatMap fun p => p.1.deps).length ≤ EH.length * 12 := by
    clear h h1 hm
    induction EH with
    | nil => simp
    | cons x E ih =>
      rw [List.flatMap_cons, List.length_append, List.length_cons]
      have := hc x (by simp)
      have := ih (fun p hp => hc p (List.mem_cons_of_mem _ hp))
      omega
  rw [List.length_map] at h1
  omega

theorem hung_nil (EH : List CE) : Hung EH [] := by
  refine ⟨?_, ?_⟩
  · intro x hx
    simp at hx
  · intro d hd
    simp at hd

/-- What holds while Heads goes on. -/
def HeadIn (w : World) (EH : List CE) (LM : List (Pr × Value)) (wr : World) : Prop :=
  MapL wr w.heap.size LM ∧ Hung EH LM ∧ wr.heap[w.heap.size + 1]? = some (.cells #[.map (some w.heap.size)] 51) ∧ Below w.heap.size w wr ∧ w.heap.size + 3 ≤ wr.heap.size

theorem HeadIn.below {w : World} {EH : List CE} {LM : List (Pr × Value)} {wr V : World} (h : HeadIn w EH LM wr) (b : Below wr.heap.size wr V) : HeadIn w EH LM V :=
  ⟨h.1.below b, h.2.1, heap_below h.2.2.1 b (Nat.le_refl _), h.2.2.2.1.trans (b.mono h.2.2.2.1.size), Nat.le_trans h.2.2.2.2 b.size⟩

set_option maxRecDepth 100000 in
set_option maxHeartbeats 4000000 in
theorem delF_nil (f : FuncId) (eg : ∀ args w, (callFunc f args).run Try.prog w = .ok (.enter f args) w) (c : Value) (w : World) :
    Calls Try.prog 27 #[.slice none 0 0, .func (Fn.func f) #[] #[c]] w fun e w' => e = .returned (.slice none 0 0) ∧ Below w.heap.size w w' := by
  have E0 := idx_any f eg c (fun _ => false) (.slice none 0 0) [] w ⟨none, 0, rfl, by simp, by simp, by simp, fun e => absurd rfl e⟩ (fun r hr => by simp at hr)
  simp only [idxP] at E0
  go_enter Try.func27, Try.ntmps27
  go_wp2_with fail
  go_fit E0
  rintro e w1 ⟨rfl, b1⟩
  clear E0
  go_wp2
  go_ret
  exact ⟨rfl, b1⟩

/-- What Heads answers. -/
def HeadsP (EH : List CE) (w : World) (v : Value) (w' : World) : Prop := ∃ a n c, v = .slice a n c ∧ (n = 0 ↔ EH = []) ∧ Below w.heap.size w w'

set_option maxRecDepth 100000 in
set_option maxHeartbeats 8000000 in
theorem heads_any (w : World) (g h q : Nat) (EH EW : List CE) (B : Bk w g h q EH EW) :
    Calls Try.prog 11 #[.pointer (some ⟨g, 0, none⟩)] w fun e w' => ∃ v, e = .returned v ∧ HeadsP EH w v w' := by
  have hmm := @run_makeMap Try.prog
  obtain ⟨W0, hW0⟩ : ∃ W0, W0 = (w.alloc (.map #[] 0)).alloc (.cells #[.map (some w.heap.size)] 51) := ⟨_, rfl⟩
  have b0 : Below w.heap.size w W0 := by rw [hW0]; exact ((Below.refl _ _).alloc (Nat.le_refl _) _).alloc (by simp) _
  have hs0 : W0.heap.size = w.heap.size + 2 := by rw [hW0]; simp
  have M0 : MapL W0 w.heap.size [] := by rw [hW0]; exact (MapL.made w).below ((Below.refl _ _).alloc (Nat.le_refl _) _)
  have T0 : W0.heap[w.heap.size + 1]? = some (.cells #[.map (some w.heap.size)] 51) := by
    rw [hW0]
    have := heap_alloc_new (w.alloc (.map #[] 0)) (.cells #[.map (some w.heap.size)] 51)
    rw [show (w.alloc (.map #[] 0)).heap.size = w.heap.size + 1 from by simp] at this
    exact this
  have B0 := B.below b0
  have c1 : W0.cell? ⟨g, 0, none⟩ = some (.map (some h)) := Lib.cell_of_heap B0.book.box 0
  obtain ⟨D0, hown, hh, hat0, hsz⟩ := B0.book.has.own
  have HB : Hid (Bk w g h q EH EW) := B
  have H0 : Hid (_ ∧ _ ∧ _ ∧ _) := ⟨b0, hs0, M0, T0⟩
  have zg := lt_of_heap B0.book.box
  have HD : Hid (∀ r v, R64 r → lk (ents EH) r = some v → ∀ z, D0.atKey (refL r) z = .held v) := hat0
  have HH : Hid (∀ r, R64 r → Maps.has D0 (refL r) = (lk (ents EH) r).isSome) := hh
  have HW : Hid _ := hW0
  rw [hW0] at hown c1 zg
  clear b0 hs0 M0 T0 B0 B hat0 hh hW0
  go_enter Try.func11, Try.ntmps11
  go_wp2_with (first | (at_range; refine wpList_range_own _ rfl _ 41 rfl 34 31 refLaw Try.underlying41 _ h (ents EH).length D0 rfl hown ?_; intro w1 hrg0 hg0 hs1) | go_in)
  go_frame
  rw [← HW.out] at hg0 hs1
  have hsz0 : ((w.alloc (.map #[] 0)).alloc (.cells #[.map (some w.heap.size)] 51)).heap.size = w.heap.size + 2 := by simp
  rw [hsz0] at hrg0 ⊢
  have I0 : HeadIn w EH [] w1 := by
    obtain ⟨b0, hs0, M0, T0⟩ := H0.out
    refine ⟨M0.grown hg0 (by simp), hung_nil EH, grown_heap T0 hg0 (by simp), b0.grown hg0 b0.size (fun k e => by cases e), by omega⟩
  have HI0 : Hid _ := I0
  clear I0 hg0 hs1 H0 c1 zg hsz0 HW hown hmm
  go_loopw [5] (fun _ wr => ∃ (left : Lit → Bool) (cnt : Nat) (LM : List (Pr × Value)), wr.ranges Try.prog 34 rawElem h (w.heap.size + 2) (ents EH).length D0 left cnt ∧ Hid (∀ r, R64 r → left (refL r) = true → (lk (ents EH) r).isSome = true) ∧ Hid (HeadIn w EH LM wr)) (fun _ wr => wr.rangeLeft h (w.heap.size + 2))
  case atStart => exact ⟨_, _, [], hrg0, fun r hr hl => by rw [← HH.out r hr]; exact hl, HI0.out⟩
  case round =>
    clear hrg0 HI0
    obtain ⟨left, cnt, LM, hrg, hleft, hI⟩ := hrel
    go_wp2_with (first | (at_next; refine wpList_next_ranges _ rfl _ rfl 34 refLaw rawElem refV id (fun key kl hk => by obtain ⟨x, hx, _⟩ := keyOf_inv hk; exact ⟨x, hx⟩) (fun v _ _ => ⟨v, rfl⟩) h (w.heap.size + 2) (ents EH).length _ _ _ rfl hrg ?_ ?_) | go_in)
    · intro hc0 hl0
      have BW := HB.out.below hI.out.2.2.2.1
      have c1 : wr.cell? ⟨g, 0, none⟩ = some (.map (some h)) := Lib.cell_of_heap BW.book.box 0
      have zg := lt_of_heap BW.book.box
      have E1 := risingKeys_any h (ents EH) wr BW.book.has (by rw [ents_len]; have := BW.many; omega)
      clear hrg hleft hc0 hl0 BW
      go_wp2_with fail
      go_fit E1
      rintro e w3 ⟨v, ts, rfl, t1, t2, t3, t4⟩
      rw [ents_keys] at t1
      have hI3 := hI.out.below t4
      have eg : ∀ args w, (callFunc 28 args).run Try.prog w = .ok (.enter 28 args) w := enters_of Try.func28 (by kernel_rfl) rfl
      have hlen : ts.length = EH.length := by have := t1.length_eq; rw [List.length_map] at this; exact this
      have h64 : ∀ r ∈ ts, R64 r := fun r hr => by
        have h1 := t1.mem_iff.1 hr
        rw [← ents_keys] at h1
        obtain ⟨y, hy, rfl⟩ := List.mem_map.1 h1
        exact HB.out.book.has.r64 y hy
      rcases t3.2 with ⟨rfl, h0⟩ | ⟨gr, rc, cur, hv, hbase, hcur, _⟩
      · have E2 := delF_nil 28 eg (.pointer (some ⟨w.heap.size + 1, 0, none⟩)) w3
        have he : EH = [] := List.length_eq_zero_iff.1 (by omega)
        have HZ : Hid (Below w.heap.size w w3) := hI3.2.2.2.1
        clear t1 t2 t3 t4 hI3 eg hlen h64 E1 c1 zg hI
        go_wp2_with fail
        go_fit E2
        rintro e w4 ⟨rfl, b4⟩
        have HP : Hid (HeadsP EH w (.slice none 0 0) w4) := ⟨none, 0, 0, rfl, by simp [he], HZ.out.trans (b4.mono HZ.out.size)⟩
        clear E2 b4 he
        go_wp2
        go_ret
        exact ⟨_, rfl, HP.out⟩
      · subst hv
        have hm1 : w.heap.size < wr.heap.size := by have := hI.out.2.2.2.2; omega
        have hm2 : w.heap.size + 1 < wr.heap.size := by have := hI.out.2.2.2.2; omega
        have E2 := delF_any 28 eg (.pointer (some ⟨w.heap.size + 1, 0, none⟩)) (fun r => decide (r ∈ LM.map (·.1))) wr.heap.size gr rc ts w3 t3 (by have := HB.out.many; omega) h64 (fun r hr W hk => hung_any w.heap.size (w.heap.size + 1) LM r W (hI3.1.kp hk (by simp; omega)) hI3.2.1.1 (hk.heap hI3.2.2.1 (by simp; omega)) (h64 r hr))
        have HZ : Hid (Below w.heap.size w w3 ∧ wr.heap.size ≤ gr ∧ w.heap.size ≤ wr.heap.size) := ⟨hI3.2.2.2.1, hbase, by omega⟩
        have hiff : (ts.filter fun r => !decide (r ∈ LM.map (·.1))).length = 0 ↔ EH = [] := by
          constructor
          · intro e
            rcases List.eq_nil_or_concat EH with h9 | ⟨E, p, h9⟩
            · exact h9
            · exfalso
              rw [List.concat_eq_append] at h9
              have hfree := last_free (EH := E) (p := p) (by rw [← h9]; exact HB.out.clo) (by rw [← h9]; exact (nodup_ents HB.out).1)
              have h1 : p.1.ref ∈ ts := t1.mem_iff.2 (by rw [h9]; simp)
              have h2 : p.1.ref ∉ LM.map (·.1) := fun e2 => by
                obtain ⟨x, hx, hd⟩ := hI3.2.1.2 _ e2
                exact hfree x (by rw [← h9]; exact hx) hd
              have h3 : p.1.ref ∈ ts.filter fun r => !decide (r ∈ LM.map (·.1)) := List.mem_filter.2 ⟨h1, by simp only [Bool.not_eq_true', decide_eq_false_iff_not]; exact h2⟩
              rw [List.length_eq_zero_iff.1 e] at h3
              cases h3
          · intro e
            have : ts = [] := List.length_eq_zero_iff.1 (by rw [hlen, e]; rfl)
            rw [this]; rfl
        have HF : Hid _ := hiff
        clear t1 t2 t3 t4 hI3 eg hlen h64 E1 c1 zg hI hbase hcur hm1 hm2 hiff
        go_wp2_with fail
        go_fit E2
        rintro e w4 ⟨u, rfl, hd⟩
        have HP : Hid (HeadsP EH w u w4) := by
          obtain ⟨d1, d2, _⟩ := hd
          obtain ⟨ua, uc, hu⟩ := rowPr_len d1
          refine ⟨ua, _, uc, hu, HF.out, HZ.out.1.trans ((d2 gr rfl).below (B := w.heap.size) (by simp; have := HZ.out; omega) HZ.out.1.size)⟩
        clear E2 hd
        go_wp2
        go_ret
        exact ⟨_, rfl, HP.out⟩
    · intro x1 x2 c kl yd yp w2 cnt2 hkey hlk hv hat hrg2 hlt hg2 hs2 hen
      obtain ⟨x', ex, rfl, hx64⟩ := keyOf_inv hkey
      obtain rfl : (x1, x2) = x' := by simpa [refV, Prod.ext_iff] using ex
      obtain ⟨v, hlv⟩ : ∃ v, lk (ents EH) (x1, x2) = some v := Option.isSome_iff_exists.1 (hleft.out _ hx64 hlk)
      have hcv : c = v := by
        have h1 := HD.out _ v hx64 hlv (.held v)
        have h2 := hat (.held v)
        unfold rawElem at hv
        have h3 := congrArg Prod.fst (Option.some.inj hv)
        have h4 : DataW.held c = .held v := by
          have h5 : DataW.held c = yd := h3
          rw [h5, ← h2]; exact h1
        exact DataW.held.inj h4
      subst hcv
      obtain ⟨c', hm, _⟩ := lk_ents hlv
      have hI2 : HeadIn w EH LM w2 := by
        obtain ⟨M, hu, T, bel, z⟩ := hI.out
        refine ⟨M.grown hg2 (by simp), hu, grown_heap T hg2 (by simp), bel.grown hg2 bel.size (fun k e => by cases e; omega), by omega⟩
      have hchg := (HB.out.chgs _ (List.mem_append_left _ hm))
      obtain ⟨ca, cs, ct, da, dn, dc, oa, on, oc, hpe⟩ := hchg.1.cv
      simp only at hpe
      subst hpe
      obtain ⟨ud, uo, lo, e1, _, hdp, _⟩ := hchg.1
      simp at e1
      obtain ⟨y1, y2, y3, hud, y5⟩ := e1
      subst hud
      clear y1 y2 y3 y5
      have hdp' : IsPairs w (.slice da dn dc) c'.deps := hdp
      have hck : chk c' = 0 := hchg.2
      clear hdp hchg
      obtain ⟨da', dc', hde, hd1, hd2, hd64, hd3⟩ := hdp'
      obtain ⟨rfl, rfl, rfl⟩ := Value.slice.inj hde
      clear hde
      have bA := (Below.refl w2.heap.size w2).alloc (Nat.le_refl _) (.cells #[.int .i64 ca, .int .i64 cs, .int .i64 ct, .slice da c'.deps.length dc, .slice oa on oc] 31)
      have hI3 := hI2.below bA
      have hrg3 := hrg2.of_walks (KeepsWalks.alloc w2 (.cells #[.int .i64 ca, .int .i64 cs, .int .i64 ct, .slice da c'.deps.length dc, .slice oa on oc] 31))
      have HM : Hid ((c', Value.agg #[.int .i64 ca, .int .i64 cs, .int .i64 ct, .slice da c'.deps.length dc, .slice oa on oc]) ∈ EH ∧ c'.deps.length ≤ 12) := ⟨hm, (chk_few hck).1⟩
      have HP : Hid (c'.deps ≠ [] → ∃ b off, da = some ⟨b, off, none⟩ ∧ b < w.heap.size ∧ ∀ i (h : i < c'.deps.length), w.cell? ⟨b, off + i * 2, none⟩ = some (.int .i64 c'.deps[i].1) ∧ w.cell? ⟨b, off + i * 2 + 1, none⟩ = some (.int .i64 c'.deps[i].2)) := hd3
      have HR : Hid (∀ d ∈ c'.deps, R64 d) := hd64
      have HI3 : Hid _ := hI3
      have HG3 : Hid _ := hrg3
      have HL : Hid (cnt2 < cnt) := hlt
      have HLe : Hid _ := hrg.left_eq
      have HXL : Hid (∀ r, R64 r → (left (refL r) && !(refL r).sameKey (refL (x1, x2))) = true → (lk (ents EH) r).isSome = true) := fun r hr hl => hleft.out r hr (by simp at hl; exact hl.1)
      clear hs2 hI2 hI3 hrg2 hrg3 hck hd1 hd2 hd64 hd3 hI hleft hlv hat hv hlk hkey ex bA hg2 hm hlt
      go_wp2_with fail
      go_loopw [21] (fun i wr => ∃ (k : Nat) (LM : List (Pr × Value)), k ≤ c'.deps.length ∧ i = .int .i64 k ∧ Hid (HeadIn w EH LM wr) ∧ Hid (wr.ranges Try.prog 34 rawElem h (w.heap.size + 2) (ents EH).length D0 (fun z => left z && !z.sameKey (refL (x1, x2))) cnt2)) (fun i _ => c'.deps.length - (RowKit.intOf i).toNat)
      case atStart => exact ⟨0, LM, Nat.zero_le _, rfl, HI3.out, HG3.out⟩
      case round =>
        clear HI3 HG3
        obtain ⟨k, LM', hk, rfl, hI, hG⟩ := hrel
        by_cases hlt : k < c'.deps.length
        · obtain ⟨b, off, rfl, h4, h5⟩ := HP.out (fun e => by rw [e] at hlt; simp at hlt)
          have bel := hI.out.2.2.2.1
          have x0 : wr.cell? ⟨b, off + k * 2, none⟩ = some (.int .i64 c'.deps[k].1) := by rw [bel.cell (p := ⟨b, off + k * 2, none⟩) h4]; exact (h5 k hlt).1
          have x1' : wr.cell? ⟨b, off + k * 2 + 1, none⟩ = some (.int .i64 c'.deps[k].2) := by rw [bel.cell (p := ⟨b, off + k * 2 + 1, none⟩) h4]; exact (h5 k hlt).2
          have hr64 := HR.out c'.deps[k] (List.getElem_mem hlt)
          have hmem : c'.deps[k] ∈ c'.deps := List.getElem_mem hlt
          obtain ⟨r, hr⟩ : ∃ r, c'.deps[k] = r := ⟨_, rfl⟩
          rw [hr] at x0 x1' hr64 hmem
          have bA := (Below.refl wr.heap.size wr).alloc (Nat.le_refl _) (.cells #[.int .i64 r.1, .int .i64 r.2] 34)
          have hI1 := hI.out.below bA
          have hG1 := hG.out.of_walks (KeepsWalks.alloc wr (.cells #[.int .i64 r.1, .int .i64 r.2] 34))
          obtain ⟨V, hput, hM, ht⟩ := hI1.1.put Try.underlying51 hr64 (hung_few hI1.2.1 hI1.1.nd (fun p hp => (chk_few (HB.out.chgs p (List.mem_append_left _ hp)).2).1) (by have := HB.out.many; omega)) (.int .i64 1)
          have kp := Kp.turned ht
          have HN : Hid (HeadIn w EH (putL LM' r (.int .i64 1)) V) := ⟨hM, hI1.2.1.put HM.out.1 hmem, kp.heap hI1.2.2.1 (by simp), hI1.2.2.2.1.trans (kp.below (B := w.heap.size) (by simp) hI1.2.2.2.1.size), Nat.le_trans hI1.2.2.2.2 kp.size⟩
          have HGN : Hid (V.ranges Try.prog 34 rawElem h (w.heap.size + 2) (ents EH).length D0 (fun z => left z && !z.sameKey (refL (x1, x2))) cnt2) := hG1.kept ht.grown (fun e => by have h1 := HB.out.book.has.lt; have := Option.some.inj e; omega) (fun e => by have := Option.some.inj e; omega)
          have c0 : wr.cell? ⟨w.heap.size + 1, 0, none⟩ = some (.map (some w.heap.size)) := Lib.cell_of_heap hI.out.2.2.1 0
          have z0 := lt_of_heap hI.out.2.2.1
          have g1 : (k : Int) < c'.deps.length := by omega
          have g2 : (k : Int) < 1000000 := by have := HM.out.2; omega
          have HK : Hid (k < c'.deps.length) := hlt
          clear h5 hk hlt bel hmem hr bA hI1 hG1 hM ht kp hI hG hr64
          go_wp2
          go_roundw
          case rel => exact ⟨k + 1, _, HK.out, by go_num, HN.out, HGN.out⟩
          case measure => simp [RowKit.intOf]; have := HK.out; omega
        · have g1 : ¬ (k : Int) < c'.deps.length := by omega
          have hk' : k = c'.deps.length := by omega
          clear hlt hk
          subst hk'
          go_wp2
          go_roundw
          case rel => exact ⟨_, cnt2, LM', hG.out, HXL.out, hI.out⟩
          case measure => rw [hG.out.left_eq, HLe.out]; exact HL.out
end Go.Proofs.Ytbjnemmghpmjjaa
