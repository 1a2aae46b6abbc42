/-
  What is proved: the functions writeKids and write of package json, called with a builder and a tree that lies in memory, write its kids', and its, text behind what the builder holds.
  Conditions: the tree is one, has at most 400 trees in it, and its numbers are of 64 bits; the table of powers of ten lies as the text lays it.
-/
import Derived.Test.YtnoikdlofkcgaaaGreatDoorG08
namespace Go.Proofs.YtnoikdlofkcgaaaGreatDoor
open Go.RowKit Go.Sort

/-- The builder holds these bytes. -/
abbrev HoldF (B b : Nat) (l : List UInt8) (w : World) : Prop := Lib.IsBuilderF 54 5 B b (Lib.byteCells l) w
theorem holdAt_below {B b : Nat} {p : Value} {bs : List Value} {w w' : World} (h : Lib.BuilderAtF 54 5 B b p bs w) (hb : Below w.heap.size w w') : Lib.BuilderAtF 54 5 B b p bs w' := by
  obtain ⟨hB, v, hv, hown, hne⟩ := h
  refine ⟨hB, v, (hb.block b (lt_of_heap hv)).trans hv, ⟨hown.1, ?_⟩, hne⟩
  rcases hown.2 with hn | ⟨g, cap, cur, fz, e, hB', hg, rest⟩
  · exact .inl hn
  · exact .inr ⟨g, cap, cur, fz, e, hB', (hb.block g (lt_of_heap hg)).trans hg, rest⟩
theorem HoldF.below {B b : Nat} {l : List UInt8} {w w' : World} (h : HoldF B b l w) (hb : Below w.heap.size w w') : HoldF B b l w' :=
  h.elim (fun x => .inl (holdAt_below x hb)) (fun x => .inr (holdAt_below x hb))
theorem HoldF.block {B b : Nat} {l : List UInt8} {w : World} (h : HoldF B b l w) : B ≤ b ∧ ∃ cs, w.heap[b]? = some (.cells cs 54) := by
  rcases h with ⟨hB, v, hv, _⟩ | ⟨hB, v, hv, _⟩ <;> exact ⟨hB, _, hv⟩

/-- What stays while the builder is written. -/
structure Fw (B b : Nat) (w w' : World) : Prop where
  low : Below B w w'
  kept : Lib.OthersKept 5 (some b) w w'
theorem Fw.refl (B b : Nat) (w : World) : Fw B b w w := ⟨Below.refl _ _, Lib.OthersKept.refl _ _ _⟩
theorem Fw.trans {B b : Nat} {w w1 w2 : World} (h : Fw B b w w1) (k : Fw B b w1 w2) : Fw B b w w2 := ⟨h.low.trans k.low, h.kept.trans k.kept⟩
theorem Fw.of {B b : Nat} {w w' : World} (h : Below w.heap.size w w') (hB : B ≤ w.heap.size) : Fw B b w w' := ⟨h.mono hB, fun k _ hk _ _ => (h.block k (lt_of_heap hk)).trans hk⟩
theorem Fw.heap {B b g : Nat} {w w' : World} {cs : Array Value} (h : Fw B b w w') (hg : w.heap[g]? = some (.cells cs 29)) (hne : g ≠ b) : w'.heap[g]? = some (.cells cs 29) :=
  h.kept g _ hg (fun e => hne (Option.some.inj e)) (fun c fz e => by injection e with _ e2; exact absurd e2 (by decide))

theorem str_cells (l s : List UInt8) : Lib.byteCells l ++ Lib.strCells (ba s) = Lib.byteCells (l ++ s) := by
  unfold Lib.byteCells Lib.strCells ba
  simp
theorem put_any (B b : Nat) (l s : List UInt8) (w : World) (h : HoldF B b l w) (hl : l.length + s.length ≤ 10000000) (hB : B ≤ w.heap.size) :
    Calls Tryz.prog 31 #[.pointer (some ⟨b, 0, none⟩), .string (ba s)] w fun e w' => (∃ n, e = .returned (.tuple #[.int .i64 n, .nilIface])) ∧ HoldF B b (l ++ s) w' ∧ Fw B b w w' := by
  have hs : (ba s).size = s.length := by unfold ba; simp [ByteArray.size]
  refine (Tryz.writeStringK B b (Lib.byteCells l) (ba s) w h (by rw [Lib.byteCells_length, hs]; omega) hB).mono ?_
  rintro e w' ⟨rfl, h1, h2, h3⟩
  rw [str_cells] at h1
  exact ⟨⟨_, rfl⟩, .inr h1, h2, h3⟩

/-- What holds between two writes: what the builder holds, and the boxes of the tree and of one of its kids. -/
structure Wr (B b g g' : Nat) (cs cs' : Array Value) (w : World) (l : List UInt8) (W : World) : Prop where
  hold : HoldF B b l W
  ne : g ≠ b ∧ g' ≠ b
  box : W.heap[g]? = some (.cells cs 29)
  kid : W.heap[g']? = some (.cells cs' 29)
  fw : Fw B b w W
theorem Wr.put {B b g g' : Nat} {cs cs' : Array Value} {w W W' : World} {l l' : List UInt8} (h : Wr B b g g' cs cs' w l W) (hh : HoldF B b l' W') (hf : Fw B b W W') : Wr B b g g' cs cs' w l' W' :=
  ⟨hh, h.ne, hf.heap h.box h.ne.1, hf.heap h.kid h.ne.2, h.fw.trans hf⟩
theorem Wr.grow {B b g g' : Nat} {cs cs' : Array Value} {w W W' : World} {l : List UInt8} (h : Wr B b g g' cs cs' w l W) (hb : Below W.heap.size W W') (hB : B ≤ W.heap.size) : Wr B b g g' cs cs' w l W' :=
  h.put (h.hold.below hb) (Fw.of hb hB)
theorem Wr.size {B b g g' : Nat} {cs cs' : Array Value} {w W : World} {l : List UInt8} (h : Wr B b g g' cs cs' w l W) (hB : B ≤ w.heap.size) : B ≤ W.heap.size := Nat.le_trans hB h.fw.low.size

set_option maxRecDepth 100000 in
set_option maxHeartbeats 10000000 in
theorem writeKids_any {w0 : World} (x : V) (ks : List ByteArray) (ts : List JT) (uk : Value) (a : Option Addr) (cap : Nat) (us : List TV) (B b : Nat) (hk : IsStrs w0 uk ks) (hl : us.length = ts.length) (hr : RowT w0 a us) (hi : ∀ i (h : i < us.length) (h' : i < ts.length), IsT w0 (tval us[i]) ts[i])
    (hB : w0.heap.size ≤ B)
    (ih : ∀ i (h : i < us.length) (h' : i < ts.length) (w : World) (l : List UInt8), Below w0.heap.size w0 w → B ≤ w.heap.size → HoldF B b l w → l.length + 400 * ts[i].size ≤ 1000000 → Calls Tryz.prog 12 #[.pointer (some ⟨b, 0, none⟩), tval us[i]] w fun e w' => e = .returned (.tuple #[]) ∧ HoldF B b (l ++ txtT ts[i]) w' ∧ Fw B b w w')
    (h5 : x.k = 5 → ks.length = ts.length) (hks : ∀ k ∈ ks, k.size ≤ 20) (hn : ts.length ≤ 400) (hkid : ∀ t ∈ ts, (txtT t).length + 100 ≤ 400 * t.size)
    (w : World) (l : List UInt8) (hb : Below w0.heap.size w0 w) (hBw : B ≤ w.heap.size) (hh : HoldF B b l w) (hlen : l.length + 400 * sizes ts ≤ 999601) :
    Calls Tryz.prog 32 #[.pointer (some ⟨b, 0, none⟩), tval (x, uk, .slice a ts.length cap)] w fun e w' => e = .returned (.tuple #[]) ∧ HoldF B b (l ++ txtL (decide (x.k = 5)) ks ts 0) w' ∧ Fw B b w w' := by
  obtain ⟨ak, ck, rfl, hk1, hk2, hk3⟩ := hk
  have HS : Hid (IsStrs w0 (.slice ak ks.length ck) ks) := ⟨ak, ck, rfl, hk1, hk2, hk3⟩
  have HI : Hid (∀ i (h : i < us.length) (h' : i < ts.length) (w : World) (l : List UInt8), Below w0.heap.size w0 w → B ≤ w.heap.size → HoldF B b l w → l.length + 400 * ts[i].size ≤ 1000000 → Calls Tryz.prog 12 #[.pointer (some ⟨b, 0, none⟩), tval us[i]] w fun e w' => e = .returned (.tuple #[]) ∧ HoldF B b (l ++ txtT ts[i]) w' ∧ Fw B b w w') := ih
  have HF : Hid ((x.k = 5 → ks.length = ts.length) ∧ (∀ k ∈ ks, k.size ≤ 20) ∧ ts.length ≤ 400 ∧ (∀ t ∈ ts, (txtT t).length + 100 ≤ 400 * t.size) ∧ w0.heap.size ≤ B ∧ B ≤ w.heap.size ∧ l.length + 400 * sizes ts ≤ 999601 ∧ us.length = ts.length) := ⟨h5, hks, hn, hkid, hB, hBw, hlen, hl⟩
  have HR : Hid (RowT w0 a us) := hr
  have HT : Hid (∀ i (h : i < us.length) (h' : i < ts.length), IsT w0 (tval us[i]) ts[i]) := hi
  have HB : Hid (Below w0.heap.size w0 w) := hb
  have HH : Hid (HoldF B b l w) := hh
  have HLen : Hid (∀ m j, (txtL m ks (ts.take j) 0).length ≤ 400 * sizes (ts.take j)) := fun m j => txtL_len m ks hks (ts.take j) 0 (fun t ht => hkid t (List.mem_of_mem_take ht))
  clear hk1 hk2 hk3 ih h5 hks hn hkid hB hBw hlen hl hr hi hb hh
  obtain ⟨m, HM⟩ : ∃ m, Hid (decide (x.k = 5) = m) := ⟨_, rfl⟩
  rw [HM.out]
  obtain ⟨xk, xn, xt, xo, xa⟩ := x
  unfold tval
  dsimp only at *
  have b0 := (Below.refl w.heap.size w).alloc (Nat.le_refl _) (.cells #[.int .i64 xk, .int .i64 xn, .string xt, .int .i64 xo, .int .i64 xa, .slice ak ks.length ck, .slice a ts.length cap] 29)
  have x0 : (w.alloc (.cells #[.int .i64 xk, .int .i64 xn, .string xt, .int .i64 xo, .int .i64 xa, .slice ak ks.length ck, .slice a ts.length cap] 29)).heap[w.heap.size]? = some (.cells #[.int .i64 xk, .int .i64 xn, .string xt, .int .i64 xo, .int .i64 xa, .slice ak ks.length ck, .slice a ts.length cap] 29) := (MapKept.heap_alloc w _).1
  have HA : Hid (_ ∧ _) := ⟨x0, b0⟩
  clear x0 b0
  go_enter Tryz.func32, Tryz.ntmps32
  go_upto_region 1 with fail
  obtain ⟨x0, b0⟩ := HA.out
  clear HA
  generalize (w.alloc (.cells #[.int .i64 xk, .int .i64 xn, .string xt, .int .i64 xo, .int .i64 xa, .slice ak ks.length ck, .slice a ts.length cap] 29)) = W0 at *
  have k6 : W0.cell? ⟨w.heap.size, 6, none⟩ = some (.slice a ts.length cap) := Lib.cell_of_heap x0 6
  have hne : w.heap.size ≠ b := by
    obtain ⟨_, cs, hcs⟩ := HH.out.block
    have := lt_of_heap hcs
    omega
  have HNE : Hid (w.heap.size ≠ b) := hne
  have HX0 : Hid (W0.heap[w.heap.size]? = some (.cells #[.int .i64 xk, .int .i64 xn, .string xt, .int .i64 xo, .int .i64 xa, .slice ak ks.length ck, .slice a ts.length cap] 29)) := x0
  have HW0 : Hid (HoldF B b l W0 ∧ Fw B b w W0) := ⟨HH.out.below b0, Fw.of b0 HF.out.2.2.2.2.2.1⟩
  clear x0 b0 hne
  go_wp2_with fail
  go_loopw [4, 5, 9] (fun _ _ i wr => ∃ (j : Nat) (s : List UInt8), j ≤ ts.length ∧ i = .int .i64 j ∧ Hid (s = l ++ txtL m ks (ts.take j) 0) ∧ Hid (HoldF B b s wr ∧ wr.heap[w.heap.size]? = some (.cells #[.int .i64 xk, .int .i64 xn, .string xt, .int .i64 xo, .int .i64 xa, .slice ak ks.length ck, .slice a ts.length cap] 29) ∧ Fw B b w wr)) (fun _ _ i _ => ts.length - (RowKit.intOf i).toNat)
  case atStart => exact ⟨0, l, Nat.zero_le _, rfl, by show _ = _; simp [txtL_nil], HW0.out.1, HX0.out, HW0.out.2⟩
  case round =>
    clear k6 HX0 HW0
    obtain ⟨j, s, hj, rfl, HSJ, HP⟩ := hrel
    by_cases hlt : j < ts.length
    · have g1 : (j : Int) < ts.length := by omega
      have hju : j < us.length := by have := HF.out.2.2.2.2.2.2.2; omega
      have tj := HT.out j hju hlt
      obtain ⟨⟨pk, pn, pt, po, pq⟩, pa1, pn1, pc1, pa2, pn2', pc2, hpp⟩ := tj.parts
      have hbw := HB.out.trans (HP.out.2.2.low.mono HF.out.2.2.2.2.1)
      obtain ⟨b2, o2, rfl, hb2, m0, m1, m2, m3, m4, m5, m6⟩ := HR.out.cells hbw j hju _ hpp
      have hmem := List.getElem_mem hlt
      have EI := fun (W : World) (l' : List UInt8) (hb : Below w0.heap.size w0 W) (hB : B ≤ W.heap.size) (hh : HoldF B b l' W) (hl : l'.length + 400 * ts[j].size ≤ 1000000) => HI.out j hju hlt W l' hb hB hh hl
      rw [hpp] at EI
      have HTX : Hid (l ++ txtL m ks (ts.take (j + 1)) 0 = s ++ (sep j ++ (keyT m ks j ++ txtT ts[j]))) := by
        show _ = _
        rw [txtL_take _ _ _ _ _ hlt, HSJ.out, Nat.zero_add, List.append_assoc]
      have HSL : Hid (s.length + 400 * ts[j].size ≤ 999601) := by
        show _ ≤ _
        rw [HSJ.out, List.length_append]
        have e1 := HLen.out m j
        have e2 := sizes_take ts j hlt
        have e3 := sizes_le ts (j + 1)
        have e4 := HF.out.2.2.2.2.2.2.1
        omega
      have HKL : Hid (∀ i, (keyT m ks i).length ≤ 63) := fun i => key_len m ks i HF.out.2.1
      dsimp only [tval] at EI
      dsimp only at m0 m1 m2 m3 m4 m5 m6
      generalize ts[j] = Tj at *
      have HEI : Hid (∀ (W : World) (l' : List UInt8), Below w0.heap.size w0 W → B ≤ W.heap.size → HoldF B b l' W → l'.length + 400 * Tj.size ≤ 1000000 → Calls Tryz.prog 12 #[.pointer (some ⟨b, 0, none⟩), .agg #[.int .i64 pk, .int .i64 pn, .string pt, .int .i64 po, .int .i64 pq, .slice pa1 pn1 pc1, .slice pa2 pn2' pc2]] W fun e w' => e = .returned (.tuple #[]) ∧ HoldF B b (l' ++ txtT Tj) w' ∧ Fw B b W w') := EI
      have HJ : Hid (j < ts.length) := hlt
      -- the box of the kid
      have b1 := (Below.refl wr.heap.size wr).alloc (Nat.le_refl _) (.cells #[.int .i64 pk, .int .i64 pn, .string pt, .int .i64 po, .int .i64 pq, .slice pa1 pn1 pc1, .slice pa2 pn2' pc2] 29)
      have n1 : (wr.alloc (.cells #[.int .i64 pk, .int .i64 pn, .string pt, .int .i64 po, .int .i64 pq, .slice pa1 pn1 pc1, .slice pa2 pn2' pc2] 29)).heap[wr.heap.size]? = some (.cells #[.int .i64 pk, .int .i64 pn, .string pt, .int .i64 po, .int .i64 pq, .slice pa1 pn1 pc1, .slice pa2 pn2' pc2] 29) := (MapKept.heap_alloc wr _).1
      have hBr : B ≤ wr.heap.size := Nat.le_trans HF.out.2.2.2.2.2.1 HP.out.2.2.low.size
      have hne2 : wr.heap.size ≠ b := by
        obtain ⟨_, cs, hcs⟩ := HP.out.1.block
        have := lt_of_heap hcs
        omega
      have HWR : Hid (Wr B b w.heap.size wr.heap.size #[.int .i64 xk, .int .i64 xn, .string xt, .int .i64 xo, .int .i64 xa, .slice ak ks.length ck, .slice (some ⟨b2, o2, none⟩) ts.length cap] #[.int .i64 pk, .int .i64 pn, .string pt, .int .i64 po, .int .i64 pq, .slice pa1 pn1 pc1, .slice pa2 pn2' pc2] w s (wr.alloc (.cells #[.int .i64 pk, .int .i64 pn, .string pt, .int .i64 po, .int .i64 pq, .slice pa1 pn1 pc1, .slice pa2 pn2' pc2] 29))) := ⟨HP.out.1.below b1, ⟨HNE.out, hne2⟩, (b1.block _ (lt_of_heap HP.out.2.1)).trans HP.out.2.1, n1, HP.out.2.2.trans (Fw.of b1 hBr)⟩
      have HQ : Hid (∀ W : World, B ≤ w.heap.size → Fw B b w W → Below w0.heap.size w0 W ∧ B ≤ W.heap.size) := fun W hB hf => ⟨HB.out.trans (hf.low.mono HF.out.2.2.2.2.1), Nat.le_trans hB hf.low.size⟩
      have g3 : (j : Int) < 8796093022208 := by have := HF.out.2.2.1; omega
      clear hmem hpp hju hlt hj tj hb2 EI hbw b1 n1 hBr hne2
      by_cases h0 : j = 0
      · have g0 : ¬ (0 : Int) < j := by omega
        have HSEP : Hid (sep j = []) := by show sep j = []; unfold sep; rw [if_pos h0]
        clear h0 g3
        go_upto_region 6 with fail
        have hwr := HWR.out
        clear HWR m0 m1 m2 m3 m4 m5 m6
        have g3 : (j : Int) < 8796093022208 := by have := HF.out.2.2.1; have := HJ.out; omega
        generalize wr.alloc (.cells #[.int .i64 pk, .int .i64 pn, .string pt, .int .i64 po, .int .i64 pq, .slice pa1 pn1 pc1, .slice pa2 pn2' pc2] 29) = W2 at *
        have HW2 : Hid (Wr B b w.heap.size wr.heap.size #[.int .i64 xk, .int .i64 xn, .string xt, .int .i64 xo, .int .i64 xa, .slice ak ks.length ck, .slice (some ⟨b2, o2, none⟩) ts.length cap] #[.int .i64 pk, .int .i64 pn, .string pt, .int .i64 po, .int .i64 pq, .slice pa1 pn1 pc1, .slice pa2 pn2' pc2] w (s ++ sep j) W2) := by show Wr _ _ _ _ _ _ _ _ _; rw [HSEP.out]; simpa using hwr
        clear hwr g3
        have k0 : W2.cell? ⟨w.heap.size, 0, none⟩ = some (.int .i64 xk) := Lib.cell_of_heap HW2.out.box 0
        have k5 : W2.cell? ⟨w.heap.size, 5, none⟩ = some (.slice ak ks.length ck) := Lib.cell_of_heap HW2.out.box 5
        have HL2 : Hid ((s ++ sep j).length + 400 * Tj.size ≤ 999602) := by
          show _ ≤ _
          have e1 := HSL.out; have e2 := sep_len j
          rw [List.length_append]
          omega
        by_cases h5 : xk = 5
        · subst h5
          have hm : m = true := by rw [← HM.out]; rfl
          subst hm
          have hjk : j < ks.length := by have := HF.out.1 rfl; have := HJ.out; omega
          have hq2 := HQ.out W2 HF.out.2.2.2.2.2.1 HW2.out.fw
          obtain ⟨kb, ko, rfl, hkb, hkm⟩ := HS.out.cells hq2.1 (show ks ≠ [] from fun e => by rw [e] at hjk; simp at hjk)
          have km := hkm j hjk
          have g4 : (j : Int) < ks.length := by omega
          have hkz : ks[j].size ≤ 20 := HF.out.2.1 _ (List.getElem_mem hjk)
          have EQ := quote_any ks[j] W2 (by omega)
          have HKT : Hid (keyT true ks j = quote ks[j].data.toList ++ [58]) := by
            show _ = _
            unfold keyT
            rw [if_pos rfl, List.getElem?_eq_getElem hjk]; rfl
          generalize ks[j] = key at *
          obtain ⟨Q, hQ⟩ : ∃ Q, Q = quote key.data.toList := ⟨_, rfl⟩
          rw [← hQ] at EQ HKT
          have EQ' : Calls Tryz.prog 49 #[.string key] W2 fun e w' => e = .returned (.string (ba Q)) ∧ Below W2.heap.size W2 w' := EQ
          have HQL : Hid (Q.length ≤ 62) := by
            show _ ≤ _
            have e1 := HKL.out j
            rw [HKT.out] at e1
            simp at e1
            omega
          clear hkm hjk hkz EQ hQ hkb hq2
          go_wp2_with fail
          go_fit EQ'
          rintro e w3 ⟨rfl, b3⟩
          have HW3 : Hid (Wr _ _ _ _ _ _ w (s ++ sep j) w3) := HW2.out.grow b3 (HQ.out W2 HF.out.2.2.2.2.2.1 HW2.out.fw).2
          have E4 := put_any B b (s ++ sep j) Q w3 HW3.out.hold (by have := HL2.out; have := HQL.out; omega) (HQ.out w3 HF.out.2.2.2.2.2.1 HW3.out.fw).2
          clear b3 EQ' k0 k5 km
          go_wp2_with fail
          go_fit E4
          rintro e w4 ⟨⟨n4, rfl⟩, h4, f4⟩
          have HW4 : Hid (Wr _ _ _ _ _ _ w (s ++ sep j ++ Q) w4) := HW3.out.put h4 f4
          have E5 : Calls Tryz.prog 31 #[.pointer (some ⟨b, 0, none⟩), .string ⟨#[58]⟩] _ _ := put_any B b (s ++ sep j ++ Q) [58] w4 HW4.out.hold (by have e1 := HL2.out; have e2 := HQL.out; simp only [List.length_append, List.length_cons, List.length_nil] at e1 ⊢; omega) (HQ.out w4 HF.out.2.2.2.2.2.1 HW4.out.fw).2
          clear h4 f4 E4
          go_wp2_with fail
          go_fit E5
          rintro e w5 ⟨⟨n5, rfl⟩, h5', f5⟩
          have HW5 : Hid (Wr _ _ _ _ _ _ w (s ++ sep j ++ Q ++ [58]) w5) := HW4.out.put h5' f5
          have HEQ : Hid (s ++ sep j ++ Q ++ [58] = s ++ (sep j ++ keyT true ks j)) := by show _ = _; rw [HKT.out]; simp only [List.append_assoc]
          clear h5' f5 E5
          rw [HEQ.out] at HW5
          clear HEQ HW4 HW3 HW2
          have q2 := HQ.out w5 HF.out.2.2.2.2.2.1 HW5.out.fw
          obtain ⟨c0, c1, c2, c3, c4, c5, c6⟩ := tboxed (u := (⟨pk, pn, pt, po, pq⟩, .slice pa1 pn1 pc1, .slice pa2 pn2' pc2)) HW5.out.kid
          dsimp only at c0 c1 c2 c3 c4 c5 c6
          have E6 := HEI.out w5 _ q2.1 q2.2 HW5.out.hold (by have e1 := HSL.out; have e2 := sep_len j; have e3 := HKL.out j; simp only [List.length_append]; omega)
          clear q2
          go_wp2_with fail
          go_fit E6
          rintro e w6 ⟨rfl, h6', f6⟩
          have HW6 : Hid (Wr _ _ _ _ _ _ w (s ++ (sep j ++ keyT true ks j) ++ txtT Tj) w6) := HW5.out.put h6' f6
          have HE6 : Hid (s ++ (sep j ++ keyT true ks j) ++ txtT Tj = l ++ txtL true ks (ts.take (j + 1)) 0) := by show _ = _; rw [HTX.out]; simp only [List.append_assoc]
          have g3 : (j : Int) < 8796093022208 := by have := HF.out.2.2.1; have := HJ.out; omega
          clear h6' f6 E6 c0 c1 c2 c3 c4 c5 c6
          go_wp2
          go_roundw
          case rel => exact ⟨j + 1, _, HJ.out, by go_num, HE6, HW6.out.hold, HW6.out.box, HW6.out.fw⟩
          case measure => simp [RowKit.intOf]; have := HJ.out; omega
        · have e5 : (xk == 5) = false := by simpa using h5
          have hm : m = false := by rw [← HM.out]; exact decide_eq_false h5
          subst hm
          clear h5
          go_upto_region 9 with fail
          have hw5 := HW2.out
          have ew5 : s ++ sep j = s ++ (sep j ++ keyT false ks j) := by rw [show keyT false ks j = [] from rfl, List.append_nil]
          rw [ew5] at hw5
          have HW5 : Hid (Wr _ _ _ _ _ _ w (s ++ (sep j ++ keyT false ks j)) W2) := hw5
          clear hw5 ew5
          clear k0 k5 HW2
          generalize W2 = w5 at *
          have q2 := HQ.out w5 HF.out.2.2.2.2.2.1 HW5.out.fw
          obtain ⟨c0, c1, c2, c3, c4, c5, c6⟩ := tboxed (u := (⟨pk, pn, pt, po, pq⟩, .slice pa1 pn1 pc1, .slice pa2 pn2' pc2)) HW5.out.kid
          dsimp only at c0 c1 c2 c3 c4 c5 c6
          have E6 := HEI.out w5 _ q2.1 q2.2 HW5.out.hold (by have e1 := HSL.out; have e2 := sep_len j; have e3 := HKL.out j; simp only [List.length_append]; omega)
          clear q2
          go_wp2_with fail
          go_fit E6
          rintro e w6 ⟨rfl, h6', f6⟩
          have HW6 : Hid (Wr _ _ _ _ _ _ w (s ++ (sep j ++ keyT false ks j) ++ txtT Tj) w6) := HW5.out.put h6' f6
          have HE6 : Hid (s ++ (sep j ++ keyT false ks j) ++ txtT Tj = l ++ txtL false ks (ts.take (j + 1)) 0) := by show _ = _; rw [HTX.out]; simp only [List.append_assoc]
          have g3 : (j : Int) < 8796093022208 := by have := HF.out.2.2.1; have := HJ.out; omega
          clear h6' f6 E6 c0 c1 c2 c3 c4 c5 c6
          go_wp2
          go_roundw
          case rel => exact ⟨j + 1, _, HJ.out, by go_num, HE6, HW6.out.hold, HW6.out.box, HW6.out.fw⟩
          case measure => simp [RowKit.intOf]; have := HJ.out; omega
      · have g0 : (0 : Int) < j := by omega
        have HSEP : Hid (sep j = [44]) := by show sep j = [44]; unfold sep; rw [if_neg h0]
        have E1 : Calls Tryz.prog 31 #[.pointer (some ⟨b, 0, none⟩), .string ⟨#[44]⟩] _ _ := put_any B b s [44] _ HWR.out.hold (by have := HSL.out; simp; omega) (HQ.out _ HF.out.2.2.2.2.2.1 HWR.out.fw).2
        clear h0 g3
        go_wp2_with fail
        go_fit E1
        rintro e W2 ⟨⟨n2, rfl⟩, h2, f2⟩
        have HW2 : Hid (Wr B b w.heap.size wr.heap.size #[.int .i64 xk, .int .i64 xn, .string xt, .int .i64 xo, .int .i64 xa, .slice ak ks.length ck, .slice (some ⟨b2, o2, none⟩) ts.length cap] #[.int .i64 pk, .int .i64 pn, .string pt, .int .i64 po, .int .i64 pq, .slice pa1 pn1 pc1, .slice pa2 pn2' pc2] w (s ++ sep j) W2) := by show Wr _ _ _ _ _ _ _ _ _; rw [HSEP.out]; exact HWR.out.put h2 f2
        clear h2 f2 E1 HWR m0 m1 m2 m3 m4 m5 m6
        have k0 : W2.cell? ⟨w.heap.size, 0, none⟩ = some (.int .i64 xk) := Lib.cell_of_heap HW2.out.box 0
        have k5 : W2.cell? ⟨w.heap.size, 5, none⟩ = some (.slice ak ks.length ck) := Lib.cell_of_heap HW2.out.box 5
        have HL2 : Hid ((s ++ sep j).length + 400 * Tj.size ≤ 999602) := by
          show _ ≤ _
          have e1 := HSL.out; have e2 := sep_len j
          rw [List.length_append]
          omega
        by_cases h5 : xk = 5
        · subst h5
          have hm : m = true := by rw [← HM.out]; rfl
          subst hm
          have hjk : j < ks.length := by have := HF.out.1 rfl; have := HJ.out; omega
          have hq2 := HQ.out W2 HF.out.2.2.2.2.2.1 HW2.out.fw
          obtain ⟨kb, ko, rfl, hkb, hkm⟩ := HS.out.cells hq2.1 (show ks ≠ [] from fun e => by rw [e] at hjk; simp at hjk)
          have km := hkm j hjk
          have g4 : (j : Int) < ks.length := by omega
          have hkz : ks[j].size ≤ 20 := HF.out.2.1 _ (List.getElem_mem hjk)
          have EQ := quote_any ks[j] W2 (by omega)
          have HKT : Hid (keyT true ks j = quote ks[j].data.toList ++ [58]) := by
            show _ = _
            unfold keyT
            rw [if_pos rfl, List.getElem?_eq_getElem hjk]; rfl
          generalize ks[j] = key at *
          obtain ⟨Q, hQ⟩ : ∃ Q, Q = quote key.data.toList := ⟨_, rfl⟩
          rw [← hQ] at EQ HKT
          have EQ' : Calls Tryz.prog 49 #[.string key] W2 fun e w' => e = .returned (.string (ba Q)) ∧ Below W2.heap.size W2 w' := EQ
          have HQL : Hid (Q.length ≤ 62) := by
            show _ ≤ _
            have e1 := HKL.out j
            rw [HKT.out] at e1
            simp at e1
            omega
          clear hkm hjk hkz EQ hQ hkb hq2
          go_wp2_with fail
          go_fit EQ'
          rintro e w3 ⟨rfl, b3⟩
          have HW3 : Hid (Wr _ _ _ _ _ _ w (s ++ sep j) w3) := HW2.out.grow b3 (HQ.out W2 HF.out.2.2.2.2.2.1 HW2.out.fw).2
          have E4 := put_any B b (s ++ sep j) Q w3 HW3.out.hold (by have := HL2.out; have := HQL.out; omega) (HQ.out w3 HF.out.2.2.2.2.2.1 HW3.out.fw).2
          clear b3 EQ' k0 k5 km
          go_wp2_with fail
          go_fit E4
          rintro e w4 ⟨⟨n4, rfl⟩, h4, f4⟩
          have HW4 : Hid (Wr _ _ _ _ _ _ w (s ++ sep j ++ Q) w4) := HW3.out.put h4 f4
          have E5 : Calls Tryz.prog 31 #[.pointer (some ⟨b, 0, none⟩), .string ⟨#[58]⟩] _ _ := put_any B b (s ++ sep j ++ Q) [58] w4 HW4.out.hold (by have e1 := HL2.out; have e2 := HQL.out; simp only [List.length_append, List.length_cons, List.length_nil] at e1 ⊢; omega) (HQ.out w4 HF.out.2.2.2.2.2.1 HW4.out.fw).2
          clear h4 f4 E4
          go_wp2_with fail
          go_fit E5
          rintro e w5 ⟨⟨n5, rfl⟩, h5', f5⟩
          have HW5 : Hid (Wr _ _ _ _ _ _ w (s ++ sep j ++ Q ++ [58]) w5) := HW4.out.put h5' f5
          have HEQ : Hid (s ++ sep j ++ Q ++ [58] = s ++ (sep j ++ keyT true ks j)) := by show _ = _; rw [HKT.out]; simp only [List.append_assoc]
          clear h5' f5 E5
          rw [HEQ.out] at HW5
          clear HEQ HW4 HW3 HW2
          have q2 := HQ.out w5 HF.out.2.2.2.2.2.1 HW5.out.fw
          obtain ⟨c0, c1, c2, c3, c4, c5, c6⟩ := tboxed (u := (⟨pk, pn, pt, po, pq⟩, .slice pa1 pn1 pc1, .slice pa2 pn2' pc2)) HW5.out.kid
          dsimp only at c0 c1 c2 c3 c4 c5 c6
          have E6 := HEI.out w5 _ q2.1 q2.2 HW5.out.hold (by have e1 := HSL.out; have e2 := sep_len j; have e3 := HKL.out j; simp only [List.length_append]; omega)
          clear q2
          go_wp2_with fail
          go_fit E6
          rintro e w6 ⟨rfl, h6', f6⟩
          have HW6 : Hid (Wr _ _ _ _ _ _ w (s ++ (sep j ++ keyT true ks j) ++ txtT Tj) w6) := HW5.out.put h6' f6
          have HE6 : Hid (s ++ (sep j ++ keyT true ks j) ++ txtT Tj = l ++ txtL true ks (ts.take (j + 1)) 0) := by show _ = _; rw [HTX.out]; simp only [List.append_assoc]
          have g3 : (j : Int) < 8796093022208 := by have := HF.out.2.2.1; have := HJ.out; omega
          clear h6' f6 E6 c0 c1 c2 c3 c4 c5 c6
          go_wp2
          go_roundw
          case rel => exact ⟨j + 1, _, HJ.out, by go_num, HE6, HW6.out.hold, HW6.out.box, HW6.out.fw⟩
          case measure => simp [RowKit.intOf]; have := HJ.out; omega
        · have e5 : (xk == 5) = false := by simpa using h5
          have hm : m = false := by rw [← HM.out]; exact decide_eq_false h5
          subst hm
          clear h5
          go_upto_region 9 with fail
          have hw5 := HW2.out
          have ew5 : s ++ sep j = s ++ (sep j ++ keyT false ks j) := by rw [show keyT false ks j = [] from rfl, List.append_nil]
          rw [ew5] at hw5
          have HW5 : Hid (Wr _ _ _ _ _ _ w (s ++ (sep j ++ keyT false ks j)) W2) := hw5
          clear hw5 ew5
          clear k0 k5 HW2
          generalize W2 = w5 at *
          have q2 := HQ.out w5 HF.out.2.2.2.2.2.1 HW5.out.fw
          obtain ⟨c0, c1, c2, c3, c4, c5, c6⟩ := tboxed (u := (⟨pk, pn, pt, po, pq⟩, .slice pa1 pn1 pc1, .slice pa2 pn2' pc2)) HW5.out.kid
          dsimp only at c0 c1 c2 c3 c4 c5 c6
          have E6 := HEI.out w5 _ q2.1 q2.2 HW5.out.hold (by have e1 := HSL.out; have e2 := sep_len j; have e3 := HKL.out j; simp only [List.length_append]; omega)
          clear q2
          go_wp2_with fail
          go_fit E6
          rintro e w6 ⟨rfl, h6', f6⟩
          have HW6 : Hid (Wr _ _ _ _ _ _ w (s ++ (sep j ++ keyT false ks j) ++ txtT Tj) w6) := HW5.out.put h6' f6
          have HE6 : Hid (s ++ (sep j ++ keyT false ks j) ++ txtT Tj = l ++ txtL false ks (ts.take (j + 1)) 0) := by show _ = _; rw [HTX.out]; simp only [List.append_assoc]
          have g3 : (j : Int) < 8796093022208 := by have := HF.out.2.2.1; have := HJ.out; omega
          clear h6' f6 E6 c0 c1 c2 c3 c4 c5 c6
          go_wp2
          go_roundw
          case rel => exact ⟨j + 1, _, HJ.out, by go_num, HE6, HW6.out.hold, HW6.out.box, HW6.out.fw⟩
          case measure => simp [RowKit.intOf]; have := HJ.out; omega
    · have g1 : ¬ (j : Int) < ts.length := by omega
      have HE : Hid (s = l ++ txtL m ks ts 0) := by
        show _ = _
        rw [HSJ.out, List.take_of_length_le (by omega)]
      clear hlt hj
      go_wp2
      go_end0
      exact ⟨rfl, by rw [← HE.out]; exact HP.out.1, HP.out.2.2⟩

set_option maxRecDepth 100000 in
set_option maxHeartbeats 8000000 in
theorem writeJ_any {w0 : World} {v : Value} {T : JT} (h : IsT w0 v T) (hTab : Tab w0) (B b : Nat) (hB0 : w0.heap.size ≤ B) : formedB T = true → T.size ≤ 400 → rngT T → ∀ (w : World) (l : List UInt8), Below w0.heap.size w0 w → B ≤ w.heap.size → HoldF B b l w → l.length + 400 * T.size ≤ 1000000 →
    Calls Tryz.prog 12 #[.pointer (some ⟨b, 0, none⟩), v] w fun e w' => e = .returned (.tuple #[]) ∧ HoldF B b (l ++ txtT T) w' ∧ Fw B b w w' := by
  have HTab : Hid (Tab w0) := hTab
  have HB0 : Hid (w0.heap.size ≤ B) := hB0
  clear hTab hB0
  induction h using IsTG.ind with
  | mk x ks ts uk a cap us hk hl hc hz hr hi ih =>
    intro hf hs hg w l hb hBw hh hlen
    obtain ⟨T, hT⟩ : ∃ T, T = JT.node x ks ts := ⟨_, rfl⟩
    have HPT : Hid (txtT T = wrapT x (txtL (decide (x.k = 5)) ks ts 0)) := by rw [hT]; exact txtT_node x ks ts
    have eks : T.ks = ks := by rw [hT]; rfl
    have ets : T.ts = ts := by rw [hT]; exact node_ts x ks ts
    have hx : T.x = x := by rw [hT]; rfl
    have hsz : T.size = sizes T.ts + 1 := size_eq T
    rw [← hT] at hf hs hg hlen ⊢
    subst eks ets hx
    clear hT
    obtain ⟨g1, g2⟩ := (rngT_eq T).1 hg
    obtain ⟨f1, f2, f3⟩ := formed_kids hf
    have fk := few_kids' hf hs
    have hkid : ∀ t ∈ T.ts, (txtT t).length + 100 ≤ 400 * t.size := fun t ht => txtT_len _ t (Nat.le_refl _) (f2 t ht) (g2 t ht)
    have EK := fun (W : World) (l' : List UInt8) (hb : Below w0.heap.size w0 W) (hB : B ≤ W.heap.size) (hh : HoldF B b l' W) (hl' : l'.length + 400 * sizes T.ts ≤ 999601) =>
      writeKids_any T.x T.ks T.ts uk a cap us B b hk hl hr hi HB0.out (fun i h h' w l hb hB hh hl => ih i h h' (f2 _ (List.getElem_mem h')) (fk.2 _ (List.getElem_mem h')) (g2 _ (List.getElem_mem h')) w l hb hB hh hl) (fun e => (f1 e).1) f3 fk.1 hkid W l' hb hB hh hl'
    obtain ⟨ak, ck, rfl, hk1, hk2, hk3⟩ := hk
    have HTLn : Hid (∀ m, (txtL m T.ks T.ts 0).length ≤ 400 * sizes T.ts) := fun m => txtL_len m T.ks f3 T.ts 0 hkid
    have HFit : Hid (Fit T.x) := fit_val T.x (formed_val hf) g1
    have HB : Hid (Below w0.heap.size w0 w) := hb
    have HBW : Hid (B ≤ w.heap.size) := hBw
    have HH : Hid (HoldF B b l w) := hh
    have HLN : Hid (l.length + 400 * T.size ≤ 1000000 ∧ T.size = sizes T.ts + 1 ∧ T.size ≤ 400) := ⟨hlen, hsz, hs⟩
    have hne : w.heap.size ≠ b := by
      obtain ⟨_, cs, hcs⟩ := hh.block
      have := lt_of_heap hcs
      omega
    have HNE : Hid (w.heap.size ≠ b) := hne
    clear hk1 hk2 hk3 hl hc hz hr hi hb ih hf hs hsz g1 g2 f1 f2 f3 hkid hg fk hBw hh hlen hne
    obtain ⟨xx, HXX⟩ : ∃ xx, Hid (T.x = xx) := ⟨_, rfl⟩
    rw [HXX.out] at HFit EK ⊢
    have HPT' : Hid (txtT T = wrapT xx (txtL (decide (xx.k = 5)) T.ks T.ts 0)) := by show _ = _; rw [← HXX.out]; exact HPT.out
    clear HPT
    have ES := fun (h5 : xx.k ≠ 5) (h6 : xx.k ≠ 6) W (ht : Tab W) => show_any xx W HFit.out h5 h6 ht
    obtain ⟨xk, xn, xt, xo, xa⟩ := xx
    unfold V.val at ES
    unfold tval at EK ⊢
    dsimp only at EK ES HFit HPT' ⊢
    have b0 := (Below.refl w.heap.size w).alloc (Nat.le_refl _) (.cells #[.int .i64 xk, .int .i64 xn, .string xt, .int .i64 xo, .int .i64 xa, .slice ak T.ks.length ck, .slice a T.ts.length cap] 29)
    have x0 : (w.alloc (.cells #[.int .i64 xk, .int .i64 xn, .string xt, .int .i64 xo, .int .i64 xa, .slice ak T.ks.length ck, .slice a T.ts.length cap] 29)).heap[w.heap.size]? = some (.cells #[.int .i64 xk, .int .i64 xn, .string xt, .int .i64 xo, .int .i64 xa, .slice ak T.ks.length ck, .slice a T.ts.length cap] 29) := (MapKept.heap_alloc w _).1
    have h0 := HH.out.below b0
    have F0 : Fw B b w _ := Fw.of b0 HBW.out
    have z0 := b0.size
    have HA : Hid (_ ∧ _) := ⟨x0, F0⟩
    by_cases h5 : xk = 5
    · subst h5
      have HW : Hid (txtT T = [123] ++ txtL true T.ks T.ts 0 ++ [125]) := by show _ = _; rw [HPT'.out]; rfl
      have E1 : Calls Tryz.prog 31 #[.pointer (some ⟨b, 0, none⟩), .string ⟨#[123]⟩] _ _ := put_any B b l [123] _ h0 (by have := HLN.out; simp; omega) (Nat.le_trans HBW.out z0)
      clear HPT' ES HFit x0 b0 h0 F0 z0
      have HEK : Hid (∀ (W : World) (l' : List UInt8), Below w0.heap.size w0 W → B ≤ W.heap.size → HoldF B b l' W → l'.length + 400 * sizes T.ts ≤ 999601 → Calls Tryz.prog 32 #[.pointer (some ⟨b, 0, none⟩), .agg #[.int .i64 5, .int .i64 xn, .string xt, .int .i64 xo, .int .i64 xa, .slice ak T.ks.length ck, .slice a T.ts.length cap]] W fun e w' => e = .returned (.tuple #[]) ∧ HoldF B b (l' ++ txtL true T.ks T.ts 0) w' ∧ Fw B b W w') := EK
      clear EK
      go_enter Tryz.func12, Tryz.ntmps12
      go_wp2_with fail
      go_fit E1
      rintro e w1 ⟨⟨n1, rfl⟩, h1, f1⟩
      have hx1 := f1.heap HA.out.1 HNE.out
      have f01 := HA.out.2.trans f1
      have hBw1 : B ≤ w1.heap.size := Nat.le_trans HBW.out f01.low.size
      have E2 := HEK.out w1 _ (HB.out.trans (f01.low.mono HB0.out)) hBw1 h1 (by have := HLN.out; rw [List.length_append]; simp; omega)
      obtain ⟨k0, k1, k2, k3, k4, k5, k6⟩ := tboxed (u := (⟨5, xn, xt, xo, xa⟩, .slice ak T.ks.length ck, .slice a T.ts.length cap)) hx1
      dsimp only at k0 k1 k2 k3 k4 k5 k6
      have HF1 : Hid (Fw B b w w1) := f01
      clear h1 f1 hx1 f01 hBw1 E1 HEK
      go_wp2_with fail
      go_fit E2
      rintro e w2 ⟨rfl, h2, f2⟩
      have f02 := HF1.out.trans f2
      have HTL : Hid ((txtL true T.ks T.ts 0).length ≤ 160000) := by
        show _ ≤ _
        have e1 := HTLn.out true
        have e2 := HLN.out
        omega
      have E3 : Calls Tryz.prog 31 #[.pointer (some ⟨b, 0, none⟩), .string ⟨#[125]⟩] _ _ := put_any B b _ [125] w2 h2 (by have := HLN.out; have := HTL.out; simp only [List.length_append, List.length_cons, List.length_nil]; omega) (Nat.le_trans HBW.out f02.low.size)
      have HF2 : Hid (Fw B b w w2) := f02
      clear h2 f2 f02 E2 k0 k1 k2 k3 k4 k5 k6
      go_wp2_with fail
      go_fit E3
      rintro e w3 ⟨⟨n3, rfl⟩, h3, f3⟩
      have HR3 : Hid (HoldF B b (l ++ txtT T) w3 ∧ Fw B b w w3) := by
        refine ⟨?_, HF2.out.trans f3⟩
        rw [HW.out]
        simpa only [List.append_assoc] using h3
      clear h3 f3 E3
      go_wp2
      go_end0
      exact ⟨rfl, HR3.out.1, HR3.out.2⟩
    · by_cases h6 : xk = 6
      · subst h6
        have HW : Hid (txtT T = [91] ++ txtL false T.ks T.ts 0 ++ [93]) := by show _ = _; rw [HPT'.out]; rfl
        have E1 : Calls Tryz.prog 31 #[.pointer (some ⟨b, 0, none⟩), .string ⟨#[91]⟩] _ _ := put_any B b l [91] _ h0 (by have := HLN.out; simp; omega) (Nat.le_trans HBW.out z0)
        clear HPT' ES HFit h5 x0 b0 h0 F0 z0
        have HEK : Hid (∀ (W : World) (l' : List UInt8), Below w0.heap.size w0 W → B ≤ W.heap.size → HoldF B b l' W → l'.length + 400 * sizes T.ts ≤ 999601 → Calls Tryz.prog 32 #[.pointer (some ⟨b, 0, none⟩), .agg #[.int .i64 6, .int .i64 xn, .string xt, .int .i64 xo, .int .i64 xa, .slice ak T.ks.length ck, .slice a T.ts.length cap]] W fun e w' => e = .returned (.tuple #[]) ∧ HoldF B b (l' ++ txtL false T.ks T.ts 0) w' ∧ Fw B b W w') := EK
        clear EK
        go_enter Tryz.func12, Tryz.ntmps12
        go_wp2_with fail
        go_fit E1
        rintro e w1 ⟨⟨n1, rfl⟩, h1, f1⟩
        have hx1 := f1.heap HA.out.1 HNE.out
        have f01 := HA.out.2.trans f1
        have hBw1 : B ≤ w1.heap.size := Nat.le_trans HBW.out f01.low.size
        have E2 := HEK.out w1 _ (HB.out.trans (f01.low.mono HB0.out)) hBw1 h1 (by have := HLN.out; rw [List.length_append]; simp; omega)
        obtain ⟨k0, k1, k2, k3, k4, k5, k6⟩ := tboxed (u := (⟨6, xn, xt, xo, xa⟩, .slice ak T.ks.length ck, .slice a T.ts.length cap)) hx1
        dsimp only at k0 k1 k2 k3 k4 k5 k6
        have HF1 : Hid (Fw B b w w1) := f01
        clear h1 f1 hx1 f01 hBw1 E1 HEK
        go_wp2_with fail
        go_fit E2
        rintro e w2 ⟨rfl, h2, f2⟩
        have f02 := HF1.out.trans f2
        have HTL : Hid ((txtL false T.ks T.ts 0).length ≤ 160000) := by
          show _ ≤ _
          have e1 := HTLn.out false
          have e2 := HLN.out
          omega
        have E3 : Calls Tryz.prog 31 #[.pointer (some ⟨b, 0, none⟩), .string ⟨#[93]⟩] _ _ := put_any B b _ [93] w2 h2 (by have := HLN.out; have := HTL.out; simp only [List.length_append, List.length_cons, List.length_nil]; omega) (Nat.le_trans HBW.out f02.low.size)
        have HF2 : Hid (Fw B b w w2) := f02
        clear h2 f2 f02 E2 k0 k1 k2 k3 k4 k5 k6
        go_wp2_with fail
        go_fit E3
        rintro e w3 ⟨⟨n3, rfl⟩, h3, f3⟩
        have HR3 : Hid (HoldF B b (l ++ txtT T) w3 ∧ Fw B b w w3) := by
          refine ⟨?_, HF2.out.trans f3⟩
          rw [HW.out]
          simpa only [List.append_assoc] using h3
        clear h3 f3 E3
        go_wp2
        go_end0
        exact ⟨rfl, HR3.out.1, HR3.out.2⟩
      · have e5 : (xk == 5) = false := by simpa using h5
        have e6 : (xk == 6) = false := by simpa using h6
        have HW : Hid (txtT T = showV ⟨xk, xn, xt, xo, xa⟩) := by
          show _ = _
          rw [HPT'.out]
          unfold wrapT
          rw [if_neg h5, if_neg h6]
        have HSV : Hid ((showV ⟨xk, xn, xt, xo, xa⟩).length ≤ 200) := show_len _ HFit.out
        have E := ES h5 h6 (w.alloc (.cells #[.int .i64 xk, .int .i64 xn, .string xt, .int .i64 xo, .int .i64 xa, .slice ak T.ks.length ck, .slice a T.ts.length cap] 29)) (HTab.out.below (HB.out.trans (b0.mono HB.out.size)))
        generalize showV ⟨xk, xn, xt, xo, xa⟩ = sv at *
        have HE : Hid (HoldF B b l (w.alloc (.cells #[.int .i64 xk, .int .i64 xn, .string xt, .int .i64 xo, .int .i64 xa, .slice ak T.ks.length ck, .slice a T.ts.length cap] 29)) ∧ Fw B b w (w.alloc (.cells #[.int .i64 xk, .int .i64 xn, .string xt, .int .i64 xo, .int .i64 xa, .slice ak T.ks.length ck, .slice a T.ts.length cap] 29)) ∧ B ≤ (w.alloc (.cells #[.int .i64 xk, .int .i64 xn, .string xt, .int .i64 xo, .int .i64 xa, .slice ak T.ks.length ck, .slice a T.ts.length cap] 29)).heap.size) := ⟨h0, F0, Nat.le_trans HBW.out z0⟩
        have E' : Calls Tryz.prog 33 #[.agg #[.int .i64 xk, .int .i64 xn, .string xt, .int .i64 xo, .int .i64 xa]] (w.alloc (.cells #[.int .i64 xk, .int .i64 xn, .string xt, .int .i64 xo, .int .i64 xa, .slice ak T.ks.length ck, .slice a T.ts.length cap] 29)) fun e w' => e = .returned (.string (ba sv)) ∧ Below (w.alloc (.cells #[.int .i64 xk, .int .i64 xn, .string xt, .int .i64 xo, .int .i64 xa, .slice ak T.ks.length ck, .slice a T.ts.length cap] 29)).heap.size (w.alloc (.cells #[.int .i64 xk, .int .i64 xn, .string xt, .int .i64 xo, .int .i64 xa, .slice ak T.ks.length ck, .slice a T.ts.length cap] 29)) w' := E
        clear HPT' ES HFit h5 h6 E EK x0 b0 h0 F0 z0 HA
        go_enter Tryz.func12, Tryz.ntmps12
        go_wp2_with fail
        go_fit E'
        rintro e w1 ⟨rfl, b1⟩
        have h1 := HE.out.1.below b1
        have f1 : Fw B b w w1 := HE.out.2.1.trans (Fw.of b1 HE.out.2.2)
        have E2 := put_any B b l sv w1 h1 (by have := HSV.out; have := HLN.out; omega) (Nat.le_trans HBW.out f1.low.size)
        have HF1 : Hid (Fw B b w w1) := f1
        clear b1 E' h1 f1 HE
        go_wp2_with fail
        go_fit E2
        rintro e w2 ⟨⟨n2, rfl⟩, h2, f2⟩
        have HR2 : Hid (HoldF B b (l ++ sv) w2 ∧ Fw B b w w2) := ⟨h2, HF1.out.trans f2⟩
        clear h2 f2 E2
        go_wp2
        go_end0
        exact ⟨rfl, by rw [HW.out]; exact HR2.out.1, HR2.out.2⟩
end Go.Proofs.YtnoikdlofkcgaaaGreatDoor
