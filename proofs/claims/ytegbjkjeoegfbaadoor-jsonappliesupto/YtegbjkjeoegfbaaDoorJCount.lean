/-
  What is proved: the function Count of bookref3, called with a tree that lies in memory and a number, answers how many trees there are in it, or that number and one, whichever is less.
  Conditions: the tree lies in memory; the number is at most 400.
-/
import Derived.Test.YtegbjkjeoegfbaaDoorJTree
namespace Go.Proofs.YtegbjkjeoegfbaaDoor
open Go.RowKit

/-- The box of a tree that a call was handed. -/
abbrev tbox (w : World) (u : TV) : World := w.alloc (.cells #[.int .i64 u.1.k, .int .i64 u.1.n, .string u.1.t, .int .i64 u.1.o, .int .i64 u.1.a, u.2.1, u.2.2] 29)

theorem lt_of_heap {w : World} {g : Nat} {o : Obj} (h : w.heap[g]? = some o) : g < w.heap.size := by
  rcases Nat.lt_or_ge g w.heap.size with h1 | h1
  · exact h1
  · rw [Array.getElem?_eq_none h1] at h; cases h

theorem tcell {w : World} {b off i : Nat} {us : List TV} (h5 : ∀ i (h : i < us.length) j, j < 7 → w.cell? ⟨b, off + i * 7 + j, none⟩ = (tcells us[i])[j]?) (h : i < us.length) (u : TV) (hu : us[i] = u) :
    w.cell? ⟨b, off + i * 7, none⟩ = some (.int .i64 u.1.k) ∧ w.cell? ⟨b, off + i * 7 + 1, none⟩ = some (.int .i64 u.1.n) ∧ w.cell? ⟨b, off + i * 7 + 2, none⟩ = some (.string u.1.t) ∧ w.cell? ⟨b, off + i * 7 + 3, none⟩ = some (.int .i64 u.1.o) ∧ w.cell? ⟨b, off + i * 7 + 4, none⟩ = some (.int .i64 u.1.a) ∧ w.cell? ⟨b, off + i * 7 + 5, none⟩ = some u.2.1 ∧ w.cell? ⟨b, off + i * 7 + 6, none⟩ = some u.2.2 := by
  subst hu
  refine ⟨?_, ?_, ?_, ?_, ?_, ?_, ?_⟩
  · exact h5 i h 0 (by decide)
  · exact h5 i h 1 (by decide)
  · exact h5 i h 2 (by decide)
  · exact h5 i h 3 (by decide)
  · exact h5 i h 4 (by decide)
  · exact h5 i h 5 (by decide)
  · exact h5 i h 6 (by decide)

theorem RowT.cells {w w' : World} {a : Option Addr} {us : List TV} (h : RowT w a us) (hb : Below w.heap.size w w') (i : Nat) (hi : i < us.length) (u : TV) (hu : us[i] = u) :
    ∃ b off, a = some ⟨b, off, none⟩ ∧ b < w.heap.size ∧ w'.cell? ⟨b, off + i * 7, none⟩ = some (.int .i64 u.1.k) ∧ w'.cell? ⟨b, off + i * 7 + 1, none⟩ = some (.int .i64 u.1.n) ∧ w'.cell? ⟨b, off + i * 7 + 2, none⟩ = some (.string u.1.t) ∧ w'.cell? ⟨b, off + i * 7 + 3, none⟩ = some (.int .i64 u.1.o) ∧ w'.cell? ⟨b, off + i * 7 + 4, none⟩ = some (.int .i64 u.1.a) ∧ w'.cell? ⟨b, off + i * 7 + 5, none⟩ = some u.2.1 ∧ w'.cell? ⟨b, off + i * 7 + 6, none⟩ = some u.2.2 := by
  obtain ⟨b, off, e, h4, h5⟩ := h (fun e => by rw [e] at hi; simp at hi)
  refine ⟨b, off, e, h4, ?_⟩
  refine tcell (w := w') (fun i h j hj => ?_) hi u hu
  rw [hb.cell (p := ⟨b, off + i * 7 + j, none⟩) h4]
  exact h5 i h j hj

/-- The cells of a box. -/
theorem tboxed {w' : World} {g : Nat} {u : TV} (h : w'.heap[g]? = some (.cells #[.int .i64 u.1.k, .int .i64 u.1.n, .string u.1.t, .int .i64 u.1.o, .int .i64 u.1.a, u.2.1, u.2.2] 29)) :
    w'.cell? ⟨g, 0, none⟩ = some (.int .i64 u.1.k) ∧ w'.cell? ⟨g, 1, none⟩ = some (.int .i64 u.1.n) ∧ w'.cell? ⟨g, 2, none⟩ = some (.string u.1.t) ∧ w'.cell? ⟨g, 3, none⟩ = some (.int .i64 u.1.o) ∧ w'.cell? ⟨g, 4, none⟩ = some (.int .i64 u.1.a) ∧ w'.cell? ⟨g, 5, none⟩ = some u.2.1 ∧ w'.cell? ⟨g, 6, none⟩ = some u.2.2 :=
  ⟨Lib.cell_of_heap h 0, Lib.cell_of_heap h 1, Lib.cell_of_heap h 2, Lib.cell_of_heap h 3, Lib.cell_of_heap h 4, Lib.cell_of_heap h 5, Lib.cell_of_heap h 6⟩

set_option maxRecDepth 100000 in
set_option maxHeartbeats 4000000 in
theorem count_any {w0 : World} {v : Value} {T : JT} (h : IsT w0 v T) : ∀ (w : World) (m : Nat), m ≤ 400 → Below w0.heap.size w0 w →
    Calls Tryd.prog 10 #[v, .int .i64 m] w fun e w' => e = .returned (.int .i64 ((min T.size (m + 1) : Nat) : Int)) ∧ Below w.heap.size w w' := by
  induction h using IsTG.ind with
  | mk x ks ts uk a cap us hk hl hc hz hr hi ih =>
    intro w m hm hb
    have HE : Hid (∀ i (h : i < us.length) (h' : i < ts.length), IsT w0 (tval us[i]) ts[i]) := hi
    have HI : Hid (∀ i (h : i < us.length) (h' : i < ts.length) (w : World) (m : Nat), m ≤ 400 → Below w0.heap.size w0 w → Calls Tryd.prog 10 #[tval us[i], .int .i64 m] w fun e w' => e = .returned (.int .i64 ((min ts[i].size (m + 1) : Nat) : Int)) ∧ Below w.heap.size w w') := ih
    have HR : Hid (RowT w0 a us) := hr
    have HL : Hid (us.length = ts.length ∧ ts.length ≤ cap ∧ ts.length ≤ 8796093022208) := ⟨hl, hc.1, hz⟩
    have HB : Hid (Below w0.heap.size w0 w) := hb
    have HM : Hid (m ≤ 400) := hm
    clear hk hl hc hz hr hi ih hb hm HE
    obtain ⟨k, n, t, o, c⟩ := x
    unfold tval
    dsimp only
    go_enter Tryd.func10, Tryd.ntmps10
    go_wp2_with fail
    go_loopw [5, 6, 7] (fun s i _ wr => ∃ j : Nat, j ≤ ts.length ∧ i = .int .i64 j ∧ s = .int .i64 ((min (sizes (ts.take j) + 1) (m + 1) : Nat) : Int) ∧ wr.heap[w.heap.size]? = some (.cells #[.int .i64 k, .int .i64 n, .string t, .int .i64 o, .int .i64 c, uk, .slice a ts.length cap] 29) ∧ Below w.heap.size w wr) (fun _ i _ _ => ts.length - (RowKit.intOf i).toNat)
    case atStart => exact ⟨0, Nat.zero_le _, rfl, by simp [sizes], (MapKept.heap_alloc w _).1, (Below.refl _ _).alloc (Nat.le_refl _) _⟩
    case round =>
      obtain ⟨j, hj, rfl, rfl, hbx, hbel⟩ := hrel
      obtain ⟨c0, c1, c2, c3, c4, c5, c6⟩ := tboxed (u := (⟨k, n, t, o, c⟩, uk, .slice a ts.length cap)) hbx
      dsimp only at c0 c1 c2 c3 c4 c5 c6
      obtain ⟨S, hS⟩ : ∃ S : Nat, S = min (sizes (ts.take j) + 1) (m + 1) := ⟨_, rfl⟩
      have HS : Hid (S = min (sizes (ts.take j) + 1) (m + 1)) := hS
      rw [← hS]
      clear hS
      have HX : Hid (wr.heap[w.heap.size]? = some _) := hbx
      have HBW : Hid (Below w.heap.size w wr) := hbel
      have HJ : Hid (j ≤ ts.length) := hj
      clear hbx hbel hj
      by_cases hlt : j < ts.length
      · by_cases hle : S ≤ m
        · have hju : j < us.length := by have := HL.out.1; omega
          obtain ⟨u, hu⟩ : ∃ u, us[j] = u := ⟨_, rfl⟩
          obtain ⟨b, off, rfl, hb4, x0, x1, x2, x3, x4, x5, x6⟩ := HR.out.cells (HB.out.trans (HBW.out.mono HB.out.size)) j hju u hu
          have E := HI.out j hju hlt wr (m - S) (by have := HM.out; omega) (HB.out.trans (HBW.out.mono HB.out.size))
          have g1 : (j : Int) < ts.length := by omega
          have g2 : (S : Int) ≤ m := by omega
          have g3 : (j : Int) < 8796093022208 := by have := HL.out; omega
          have g4 : (m : Int) ≤ 400 := by have := HM.out; omega
          rw [hu, show (((m - S : Nat) : Nat) : Int) = (m : Int) - S by omega] at E
          have hsz := sizes_take ts j hlt
          generalize ts[j].size = z at E hsz
          obtain ⟨r, hr⟩ : ∃ r : Nat, r = min z (m - S + 1) := ⟨_, rfl⟩
          rw [← hr] at E
          have HRR : Hid (sizes (ts.take (j + 1)) = sizes (ts.take j) + z ∧ r = min z (m - S + 1) ∧ j < ts.length ∧ S ≤ m) := ⟨hsz, hr, hlt, hle⟩
          have g5 : (r : Int) ≤ m - S + 1 := by omega
          obtain ⟨⟨k', n', t', o', c'⟩, uk', ut'⟩ := u
          unfold tval at E
          dsimp only at E x0 x1 x2 x3 x4 x5 x6
          clear hr hsz hlt hle hu hju
          go_wp2_with fail
          go_fit E
          rintro e w2 ⟨rfl, b2⟩
          have HX2 : Hid (w2.heap[w.heap.size]? = some _) := (b2.block _ (lt_of_heap HX.out)).trans HX.out
          have HB2 : Hid (Below w.heap.size w w2) := HBW.out.trans (b2.mono HBW.out.size)
          clear b2 E x0 x1 x2 x3 x4 x5 x6 c0 c1 c2 c3 c4 c5 c6
          go_wp2
          go_roundw
          case rel =>
            refine ⟨j + 1, by have := HRR.out; omega, by go_num, ?_, HX2.out, HB2.out⟩
            have h1 := HRR.out
            have h2 := HS.out
            have h3 : min (sizes (ts.take (j + 1)) + 1) (m + 1) = S + r := by omega
            rw [h3]
            go_num
          case measure => simp [RowKit.intOf]; have := HRR.out; omega
        · have g1 : (j : Int) < ts.length := by omega
          have g2 : ¬ (S : Int) ≤ m := by omega
          have HRR : Hid (j < ts.length ∧ ¬ S ≤ m) := ⟨hlt, hle⟩
          clear hlt hle
          go_wp2
          go_ret
          refine ⟨?_, HBW.out⟩
          have h1 := HRR.out
          have h2 := HS.out
          have h3 := sizes_le ts j
          have h4 : min (JT.node ⟨k, n, t, o, c⟩ ks ts).size (m + 1) = S := by rw [size_node]; omega
          rw [h4]
          rfl
      · have g1 : ¬ (j : Int) < ts.length := by omega
        have HRR : Hid (¬ j < ts.length) := hlt
        clear hlt
        go_wp2
        go_ret
        refine ⟨?_, HBW.out⟩
        have h1 := HRR.out
        have h2 := HS.out
        have h3 := HJ.out
        have h4 : min (JT.node ⟨k, n, t, o, c⟩ ks ts).size (m + 1) = S := by
          have h5 : j = ts.length := by omega
          rw [h5, List.take_length] at h2
          rw [size_node]; omega
        rw [h4]
        rfl
end Go.Proofs.YtegbjkjeoegfbaaDoor
